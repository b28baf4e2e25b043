/- A row that is known: the statements' wakes. -/
import Derived.Test.YthiiemjbigcinaaQC
namespace Go.Proofs.Ythiiemjbigcinaa
open Go.RowKit

theorem Up.trans' {w W W' : World} {G : Nat → Prop} (hu : Up w W) (ht : Turn G W W') (hG : ∀ i, G i → w.heap.size ≤ i) : Up w W' := Below.trans hu (ht.below (Below.size hu) hG)
def wkL : List ByteArray := [⟨#[97]⟩, ⟨#[98]⟩, ⟨#[99]⟩]
def wkZ : List Int := [2, 0, 3]
def wkR : Row := [(⟨#[97]⟩, 2), (⟨#[98]⟩, 0), (⟨#[99]⟩, 3)]
theorem wk_e : splE [] 0 0 wkL wkZ = 0 := by decide
theorem wk_r : splR [] 0 0 wkL wkZ = wkR := by rfl
theorem wk_tot : tot wkR = 5 := by decide
theorem wk_sz : sz wkR 0 = 2 ∧ sz wkR 1 = 0 ∧ sz wkR 2 = 3 := by decide
theorem wk_plc : plc wkR 0 = 0 ∧ plc wkR 1 = 2 ∧ plc wkR 2 = 2 ∧ plc wkR 3 = 5 := by decide
abbrev wkX : Obj := .cells #[.string ⟨#[97]⟩, .string ⟨#[98]⟩, .string ⟨#[99]⟩] 9
abbrev wkY : Obj := .cells #[.int .i64 2, .int .i64 0, .int .i64 3] 3
section
variable {S : World → Nat → (Nat → Prop) → Row → Prop} (hC : SeqC S)
include hC
theorem wk_splice (w w1 : World) (sb : Nat) (hu : Up w w1) (h : S w1 sb (fun i => w.heap.size ≤ i) []) : Calls Try.prog 11 #[ptr sb, .int .i64 0, .int .i64 0, .slice (some ⟨w1.heap.size, 0, none⟩) 3 3, .slice (some ⟨w1.heap.size + 1, 0, none⟩) 3 3] ((w1.alloc wkX).alloc wkY) fun e w' =>
    e = .returned (.int .i64 0) ∧ S w' sb (fun i => w.heap.size ≤ i) wkR ∧ Up w w' := by
  have hn := Go.heap_alloc_new w1 wkX
  have hn2 : ((w1.alloc wkX).alloc wkY).heap[w1.heap.size + 1]? = some wkY := by have := Go.heap_alloc_new (w1.alloc wkX) wkY; rwa [World.size_alloc] at this
  have hn1 : ((w1.alloc wkX).alloc wkY).heap[w1.heap.size]? = some wkX := (Below.block (Up.alloc (w1.alloc wkX) wkY) _ (by simp)).trans hn
  have hs : ((w1.alloc wkX).alloc wkY).heap.size = w1.heap.size + 2 := by simp
  have hb := Below.size hu
  have h1 : S ((w1.alloc wkX).alloc wkY) sb (fun i => w.heap.size ≤ i ∧ i < w1.heap.size) [] := hC.up (hC.mono h (fun i hi k => ⟨k, hi⟩)) ((Up.alloc _ _).trans (Up.alloc _ _))
  have hx : XArg ((w1.alloc wkX).alloc wkY) (some ⟨w1.heap.size, 0, none⟩) 3 3 wkL := by
    refine ⟨⟨rfl, fun i hi => ⟨_, 0, rfl, by omega, ?_⟩⟩, by decide, Nat.le_refl _, by decide, fun e => by cases e⟩
    refine cellOf hn1 ?_
    have : i = 0 ∨ i = 1 ∨ i = 2 := by have : i < 3 := hi; omega
    rcases this with rfl | rfl | rfl <;> rfl
  have hz : ZArg ((w1.alloc wkX).alloc wkY) (some ⟨w1.heap.size + 1, 0, none⟩) 3 3 wkZ := by
    refine ⟨⟨rfl, fun i hi => ⟨_, 0, rfl, by omega, ?_⟩⟩, by decide, Nat.le_refl _, by decide, fun e => by cases e⟩
    refine cellOf hn2 ?_
    have : i = 0 ∨ i = 1 ∨ i = 2 := by have : i < 3 := hi; omega
    rcases this with rfl | rfl | rfl <;> rfl
  refine (hC.splice _ sb _ [] 0 0 _ 3 3 wkL _ 3 3 wkZ h1 (by unfold I64; omega) (by unfold I64; omega) hx hz (by omega) (by omega) (fun a e _ => by injection e with e; subst e; dsimp only; omega) (fun a e _ => by injection e with e; subst e; dsimp only; omega)).mono ?_
  rw [wk_e, wk_r]
  rintro e w2 ⟨rfl, hs2, ht2⟩
  refine ⟨rfl, hC.mono hs2 (fun i _ k => ?_), ((hu.trans (Up.alloc _ _)).trans (Up.alloc _ _)).trans' ht2 (fun i k => k.1)⟩
  rcases k with k | k
  · exact k.1
  · omega
theorem wk_find (w : World) (sb : Nat) (G : Nat → Prop) (h : S w sb G wkR) : Calls Try.prog 9 #[ptr sb, .int .i64 2] w fun e w' => e = .returned (.tuple #[.int .i64 2, .int .i64 0, .int .i64 0]) ∧ Up w w' := by
  refine (hC.find w sb G wkR 2 h (by unfold I64; omega)).mono ?_
  rintro e w' ⟨hf, hu⟩
  refine ⟨?_, hu⟩
  rcases hf with ⟨-, -, i, h1, h2, h3, rfl⟩ | ⟨h1, -⟩
  · have : i = 0 ∨ i = 1 ∨ i = 2 := by have : i < 3 := h1; omega
    obtain ⟨p0, p1, p2, p3⟩ := wk_plc
    obtain ⟨s0, s1, s2⟩ := wk_sz
    rcases this with rfl | rfl | rfl
    · omega
    · omega
    · rw [p2]; rfl
  · exact absurd ⟨by omega, by rw [wk_tot]; omega⟩ h1
set_option maxRecDepth 100000 in
set_option maxHeartbeats 2000000 in
theorem wakes_any (w : World) : Calls Try.prog 15 #[] w fun e w' => e = .returned (.bool true) ∧ Up w w' := by
  have HN := Lib.hid (hC.new w)
  have HSp := Lib.hid (wk_splice hC w)
  have HFi := Lib.hid (wk_find hC)
  have HLe := Lib.hid (fun W sb G h => hC.len W sb G wkR h)
  have HSi := Lib.hid (fun W sb G h => hC.size W sb G wkR h)
  have HUp := Lib.hid (fun W W' sb G h hu => hC.up (w := W) (w' := W') (sb := sb) (G := G) (R := wkR) h hu)
  clear hC
  go_enter Try.func15, Try.ntmps15
  go_wp2_with (first
    | (go_at_call 17; ((with_reducible refine HN.out.mono ?_); rintro e w1 ⟨sb, rfl, hb1, hu1⟩; have HP1 := Lib.hid (HSp.out w1 sb hu1 hb1); clear hb1 hu1))
    | (go_at_call 11; ((with_reducible refine HP1.out.mono ?_); rintro e w2 ⟨rfl, hb2, hu2⟩; have HB2 := Lib.hid hb2; have HU2 := Lib.hid hu2; clear hb2 hu2))
    | (go_at_call 9; ((with_reducible refine (HFi.out _ _ _ HB2.out).mono ?_); rintro e w3 ⟨rfl, hu3⟩; have HB3 := Lib.hid (HUp.out _ _ _ _ HB2.out hu3); have HU3 := Lib.hid hu3; clear hu3))
    | (go_at_call 12; ((with_reducible refine (HLe.out _ _ _ HB3.out).mono ?_); rintro e w4 ⟨rfl, hu4⟩; have HB4 := Lib.hid (HUp.out _ _ _ _ HB3.out hu4); have HU4 := Lib.hid hu4; clear hu4))
    | (go_at_call 13; ((with_reducible refine (HSi.out _ _ _ HB4.out).mono ?_); rw [wk_tot]; rintro e w5 ⟨rfl, hu5⟩; have HU5 := Lib.hid hu5; clear hu5)))
  go_ret
  exact ⟨rfl, HU2.out.trans (HU3.out.trans (HU4.out.trans HU5.out))⟩
end
end Go.Proofs.Ythiiemjbigcinaa
