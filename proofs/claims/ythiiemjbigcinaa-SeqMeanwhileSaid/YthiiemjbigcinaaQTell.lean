/- What a row tells at numbers and places that are known to lie in it. -/
import Derived.Test.YthiiemjbigcinaaQWake
import Derived.Test.YthiiemjbigcinaaQGreat
namespace Go.Proofs.Ythiiemjbigcinaa
open Go.RowKit
section
variable {S : World → Nat → (Nat → Prop) → Row → Prop} (hC : SeqC S)
include hC
theorem sum_in {w : World} {sb : Nat} {G : Nat → Prop} {R : Row} (h : S w sb G R) (i : Nat) (hi : i ≤ R.length) : Calls Try.prog 8 #[ptr sb, .int .i64 (i : Nat)] w fun e w' => e = .returned (.tuple #[.int .i64 (plc R i), .int .i64 0]) ∧ Up w w' := by
  have hl := (hC.ok h).len
  refine (hC.sum w sb G R i h (by unfold I64; omega)).mono ?_
  rintro e w' ⟨⟨k, hk, -, rfl⟩ | ⟨hk, rfl⟩, hu⟩
  · obtain rfl : i = k := by omega
    exact ⟨rfl, hu⟩
  · exact absurd ⟨by omega, by omega⟩ hk
theorem at_in {w : World} {sb : Nat} {G : Nat → Prop} {R : Row} (h : S w sb G R) (i : Nat) (hi : i < R.length) : Calls Try.prog 7 #[ptr sb, .int .i64 (i : Nat)] w fun e w' => e = .returned (.tuple #[.string (nt R i), .int .i64 (sz R i), .int .i64 0]) ∧ Up w w' := by
  have hl := (hC.ok h).len
  refine (hC.at_ w sb G R i h (by unfold I64; omega)).mono ?_
  rintro e w' ⟨⟨k, hk, -, rfl⟩ | ⟨hk, rfl⟩, hu⟩
  · obtain rfl : i = k := by omega
    exact ⟨rfl, hu⟩
  · exact absurd ⟨by omega, by omega⟩ hk
theorem find_in {w : World} {sb : Nat} {G : Nat → Prop} {R : Row} (h : S w sb G R) (i : Nat) (hi : i < R.length) (off : Int) (h1 : plc R i ≤ off) (h2 : off < plc R i + sz R i) : Calls Try.prog 9 #[ptr sb, .int .i64 off] w fun e w' => e = .returned (.tuple #[.int .i64 (i : Nat), .int .i64 (off - plc R i), .int .i64 0]) ∧ Up w w' := by
  have hok := hC.ok h
  have a1 := hok.plc0 i
  have a2 : plc R (i + 1) ≤ tot R := hok.plcT hi
  have a3 : plc R (i + 1) = plc R i + sz R i := rfl
  have a4 := hok.all
  refine (hC.find w sb G R off h (by unfold I64; omega)).mono ?_
  rintro e w' ⟨⟨-, -, j, hj, h3, h4, rfl⟩ | ⟨hk, rfl⟩, hu⟩
  · obtain rfl : i = j := plc_one hok.nn h1 h2 h3 h4
    exact ⟨rfl, hu⟩
  · exact absurd ⟨by omega, by omega⟩ hk
theorem find_out {w : World} {sb : Nat} {G : Nat → Prop} {R : Row} (h : S w sb G R) (off : Int) (h0 : I64 off) (h1 : ¬ (0 ≤ off ∧ off < tot R)) : Calls Try.prog 9 #[ptr sb, .int .i64 off] w fun e w' => e = .returned (.tuple #[.int .i64 0, .int .i64 0, .int .i64 5]) ∧ Up w w' := by
  refine (hC.find w sb G R off h h0).mono ?_
  rintro e w' ⟨⟨k1, k2, -⟩ | ⟨-, rfl⟩, hu⟩
  · exact absurd ⟨k1, k2⟩ h1
  · exact ⟨rfl, hu⟩
end
/-- A row that is known, and what was there before it. -/
structure KS (S : World → Nat → (Nat → Prop) → Row → Prop) (w : World) (sb : Nat) (R : Row) (W : World) : Prop where
  at_ : S W sb (fun i => w.heap.size ≤ i) R
  up : Up w W
theorem KS.more {S : World → Nat → (Nat → Prop) → Row → Prop} (hC : SeqC S) {w : World} {sb : Nat} {R : Row} {W W' : World} (h : KS S w sb R W) (hu : Up W W') : KS S w sb R W' := ⟨hC.up h.at_ hu, h.up.trans hu⟩
/-- A row that grows. -/
def GS (S : World → Nat → (Nat → Prop) → Row → Prop) (w : World) (sb : Nat) (L : List Deed) (i : Nat) (W : World) : Prop := ∃ R, KS S w sb R W ∧ R.length ≤ cntN L i
/-- Splice, of lists that were there before the row. -/
theorem splice_up {S : World → Nat → (Nat → Prop) → Row → Prop} (hC : SeqC S) (w W : World) (sb : Nat) (R : Row) (h : KS S w sb R W) (X : Deed) (hX : AOk w X) (h1 : X.n ≤ 1000000) (h2 : X.m ≤ 1000000) :
    Calls Try.prog 11 #[ptr sb, .int .i64 X.i, .int .i64 X.k, .slice X.A X.n X.c, .slice X.B X.m X.e] W fun e w' => e = .returned (.int .i64 (splE R X.i X.k X.L X.Z)) ∧ KS S w sb (splR R X.i X.k X.L X.Z) w' ∧ Turn (fun i => w.heap.size ≤ i ∧ i < W.heap.size) W w' := by
  have hs := Below.size h.up
  refine (hC.splice W sb (fun i => w.heap.size ≤ i ∧ i < W.heap.size) R X.i X.k X.A X.n X.c X.L X.B X.m X.e X.Z (hC.mono h.at_ (fun i hi k => ⟨k, hi⟩)) (wf64 hX.i) (wf64 hX.k) (hX.x.up h.up) (hX.z.up h.up) h1 h2 (fun a e h0 => by have := hX.x.lt a e h0; omega) (fun a e h0 => by have := hX.z.lt a e h0; omega)).mono ?_
  rintro e w' ⟨h3, h4, h5⟩
  refine ⟨h3, ⟨hC.mono h4 (fun i _ k => ?_), h.up.trans' h5 (fun i k => k.1)⟩, h5⟩
  rcases k with k | k
  · exact k.1
  · omega
end Go.Proofs.Ythiiemjbigcinaa
