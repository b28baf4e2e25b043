/- A node's numbers into a sum: the program's inner function of Hash. -/
import Derived.Test.YtidnldchdahgeaaDoorTEat
namespace Go.Proofs.YtidnldchdahgeaaDoor
open Go.RowKit

/-- Numbers into a sum, one behind the other. -/
def eatL (h : Int) (zs : List Int) : Int := zs.foldl (fun h z => eatS 8 h (u64N z)) h
theorem eatL_app (h : Int) (a b : List Int) : eatL h (a ++ b) = eatL (eatL h a) b := by unfold eatL; rw [List.foldl_append]
theorem cell_grown {W W' : World} {Bs b o : Nat} {v : Value} (hg : W.grownBy W' (some Bs)) (hb : b ≠ Bs) (h : W.cell? ⟨b, o, none⟩ = some v) : W'.cell? ⟨b, o, none⟩ = some v := by
  obtain ⟨cs, t, fr, e⟩ := cell_block h
  exact (World.cell?_of_block (hg.block b (Array.getElem?_eq_some_iff.1 e).1 (fun e => hb (by injection e with e)))).trans h
theorem keepH {W W' : World} {Ba Bl Bi N b p q : Nat} {v0 v1 v2 v3 v4 v5 v6 v7 v8 : Value} (hk : ∀ (x y : Nat) (v : Value), x = Ba ∨ x = Bl ∨ x = Bi ∨ x = N ∨ x = b → W.cell? ⟨x, y, none⟩ = some v → W'.cell? ⟨x, y, none⟩ = some v)
    (h : W.cell? ⟨Ba, 0, none⟩ = some v0 ∧ W.cell? ⟨Bl, 0, none⟩ = some v1 ∧ W.cell? ⟨Bi, 0, none⟩ = some v2 ∧ W.cell? ⟨N, 0, none⟩ = some v3 ∧ W.cell? ⟨N, 1, none⟩ = some v4 ∧ W.cell? ⟨N, 2, none⟩ = some v5 ∧ W.cell? ⟨N, 3, none⟩ = some v6 ∧ W.cell? ⟨b, p, none⟩ = some v7 ∧ W.cell? ⟨b, q, none⟩ = some v8) :
    W'.cell? ⟨Ba, 0, none⟩ = some v0 ∧ W'.cell? ⟨Bl, 0, none⟩ = some v1 ∧ W'.cell? ⟨Bi, 0, none⟩ = some v2 ∧ W'.cell? ⟨N, 0, none⟩ = some v3 ∧ W'.cell? ⟨N, 1, none⟩ = some v4 ∧ W'.cell? ⟨N, 2, none⟩ = some v5 ∧ W'.cell? ⟨N, 3, none⟩ = some v6 ∧ W'.cell? ⟨b, p, none⟩ = some v7 ∧ W'.cell? ⟨b, q, none⟩ = some v8 := by
  obtain ⟨h0, h1, h2, h3, h4, h5, h6, h7, h8⟩ := h
  exact ⟨hk _ _ _ (.inl rfl) h0, hk _ _ _ (.inr (.inl rfl)) h1, hk _ _ _ (.inr (.inr (.inl rfl))) h2, hk _ _ _ (.inr (.inr (.inr (.inl rfl)))) h3, hk _ _ _ (.inr (.inr (.inr (.inl rfl)))) h4, hk _ _ _ (.inr (.inr (.inr (.inl rfl)))) h5, hk _ _ _ (.inr (.inr (.inr (.inl rfl)))) h6, hk _ _ _ (.inr (.inr (.inr (.inr rfl)))) h7, hk _ _ _ (.inr (.inr (.inr (.inr rfl)))) h8⟩
theorem drew_grown {w w' : World} {r : Option Nat} (h : w.drew.grownBy w' r) : w.grownBy w' r := ⟨h.os, h.tape, h.output, h.size, h.block⟩
/-- What the inner function stands on. -/
structure AddS (W : World) (Ba Bl Bi Bs b o n c i : Nat) (f d : Int) : Prop where
  ba : Boxed W Ba 73 (.func (.func 47) #[] #[.pointer (some ⟨Bs, 0, none⟩)])
  bl : Boxed W Bl 22 (.slice (some ⟨b, o, none⟩) n c)
  bi : Boxed W Bi 3 (.int .i64 (i : Nat))
  cf : W.cell? ⟨b, o + i * 4 + 1, none⟩ = some (.int .i64 f)
  cd : W.cell? ⟨b, o + i * 4 + 3, none⟩ = some (.int .i64 d)
theorem AddS.grown {W W' : World} {Ba Bl Bi Bs b o n c i : Nat} {f d : Int} (h : AddS W Ba Bl Bi Bs b o n c i f d) {r : Option Nat} (hg : W.grownBy W' r) (hr : ∀ x, r = some x → x ≠ Ba ∧ x ≠ Bl ∧ x ≠ Bi ∧ x ≠ b) : AddS W' Ba Bl Bi Bs b o n c i f d := by
  have hk : ∀ (y : Nat) (v : Value), W.cell? ⟨b, y, none⟩ = some v → W'.cell? ⟨b, y, none⟩ = some v := fun y v hv => by
    obtain ⟨cs, t, fr, e⟩ := cell_block hv
    exact (World.cell?_of_block (hg.block b (Array.getElem?_eq_some_iff.1 e).1 (fun e => (hr _ e.symm).2.2.2 rfl))).trans hv
  exact ⟨h.ba.kept hg (fun e => (hr _ e.symm).1 rfl), h.bl.kept hg (fun e => (hr _ e.symm).2.1 rfl), h.bi.kept hg (fun e => (hr _ e.symm).2.2.1 rfl), hk _ _ h.cf, hk _ _ h.cd⟩
set_option maxRecDepth 100000 in
set_option maxHeartbeats 8000000 in
theorem addNode_any (w : World) (Ba Bl Bi Bs b o n c i : Nat) (f d x0 x1 x2 x3 h : Int) (hS : AddS w Ba Bl Bi Bs b o n c i f d) (hne : Bs ≠ Ba ∧ Bs ≠ Bl ∧ Bs ≠ Bi ∧ Bs ≠ b) (hin : i < n) (hb : Boxed w Bs 48 (.int .u64 h))
    (q0 : IntKind.i64.wrap x0 = x0) (q1 : IntKind.i64.wrap (x3 - d) = x3 - d) (q2 : IntKind.i64.wrap (x1 - f) = x1 - f) (q3 : IntKind.i64.wrap (x2 - f) = x2 - f) :
    Calls Tryd.prog 48 #[.agg #[.int .u8 x0, .int .i64 x1, .int .i64 x2, .int .i64 x3], .pointer (some ⟨Ba, 0, none⟩), .pointer (some ⟨Bl, 0, none⟩), .pointer (some ⟨Bi, 0, none⟩)] w fun e w' =>
      e = .returned (.tuple #[]) ∧ Boxed w' Bs 48 (.int .u64 (eatL h [x0, x3 - d, x1 - f, x2 - f])) ∧ w.grownBy w' (some Bs) := by
  have hua := Up.alloc w (.cells #[.int .u8 x0, .int .i64 x1, .int .i64 x2, .int .i64 x3] 40)
  have n0 : (w.alloc (.cells #[.int .u8 x0, .int .i64 x1, .int .i64 x2, .int .i64 x3] 40)).cell? ⟨w.heap.size, 0, none⟩ = some (.int .u8 x0) := cellOf (Go.heap_alloc_new _ _) rfl
  have n1 : (w.alloc (.cells #[.int .u8 x0, .int .i64 x1, .int .i64 x2, .int .i64 x3] 40)).cell? ⟨w.heap.size, 1, none⟩ = some (.int .i64 x1) := cellOf (Go.heap_alloc_new _ _) rfl
  have n2 : (w.alloc (.cells #[.int .u8 x0, .int .i64 x1, .int .i64 x2, .int .i64 x3] 40)).cell? ⟨w.heap.size, 2, none⟩ = some (.int .i64 x2) := cellOf (Go.heap_alloc_new _ _) rfl
  have n3 : (w.alloc (.cells #[.int .u8 x0, .int .i64 x1, .int .i64 x2, .int .i64 x3] 40)).cell? ⟨w.heap.size, 3, none⟩ = some (.int .i64 x3) := cellOf (Go.heap_alloc_new _ _) rfl
  have c0 := cell_up hua hS.ba.cell
  have c1 := cell_up hua hS.bl.cell
  have c2 := cell_up hua hS.bi.cell
  have c3 := cell_up hua hS.cf
  have c4 := cell_up hua hS.cd
  have HB0 := Lib.hid (hb.alloc (.cells #[.int .u8 x0, .int .i64 x1, .int .i64 x2, .int .i64 x3] 40))
  have HNx : Hid (∀ x, x = Ba ∨ x = Bl ∨ x = Bi ∨ x = w.heap.size ∨ x = b → x ≠ Bs) := Lib.hid fun x hx e => by
    have h5 := (Array.getElem?_eq_some_iff.1 hb).1
    rcases hx with h1 | h1 | h1 | h1 | h1 <;> omega
  have HG0 := Lib.hid (show w.grownBy (w.alloc (.cells #[.int .u8 x0, .int .i64 x1, .int .i64 x2, .int .i64 x3] 40)) (some Bs) from World.grownBy_alloc w _ _)
  have HAd := Lib.hid (fun z h W (hb : Boxed W Bs 48 (.int .u64 h)) => add_any z h Bs W hb)
  have j2 : (i : Int) < n := by omega
  clear hS hne hb hua hin
  go_enter Tryd.func48, Tryd.ntmps48
  go_wp2_with (go_at_call 47; ((with_reducible refine (HAd.out _ _ _ HB0.out).mono ?_); rintro e w1 ⟨rfl, hb1, hg1⟩; refine Hid.out ?_))
  refine Lib.hid ?_
  obtain ⟨N, hN⟩ : ∃ N, w.heap.size = N := ⟨_, rfl⟩
  rw [hN] at n0 n1 n2 n3 HNx
  simp only [hN]
  have hS1 : w1.cell? ⟨Ba, 0, none⟩ = some (.func (.func 47) #[] #[.pointer (some ⟨Bs, 0, none⟩)]) ∧ w1.cell? ⟨Bl, 0, none⟩ = some (.slice (some ⟨b, o, none⟩) n c) ∧ w1.cell? ⟨Bi, 0, none⟩ = some (.int .i64 (i : Nat)) ∧ w1.cell? ⟨N, 0, none⟩ = some (.int .u8 x0) ∧ w1.cell? ⟨N, 1, none⟩ = some (.int .i64 x1) ∧ w1.cell? ⟨N, 2, none⟩ = some (.int .i64 x2) ∧ w1.cell? ⟨N, 3, none⟩ = some (.int .i64 x3) ∧ w1.cell? ⟨b, o + i * 4 + 1, none⟩ = some (.int .i64 f) ∧ w1.cell? ⟨b, o + i * 4 + 3, none⟩ = some (.int .i64 d) := keepH (fun x y v hx hv => cell_grown hg1 (HNx.out x hx) hv) ⟨c0, c1, c2, n0, n1, n2, n3, c3, c4⟩
  have HB1 := Lib.hid hb1
  have HG1 := Lib.hid (grown_trans HG0.out hg1)
  clear n0 n1 n2 n3 c0 c1 c2 c3 c4 hb1 hg1 HB0 HG0 hN q0
  have hb1d : Boxed w1.drew Bs 48 _ := HB1.out
  have HB1d := Lib.hid hb1d
  clear hb1d
  go_wp2_with fail
  go_region_held3 (fun w' => w'.cell? ⟨Ba, 0, none⟩ = some (.func (.func 47) #[] #[.pointer (some ⟨Bs, 0, none⟩)]) ∧ w'.cell? ⟨Bl, 0, none⟩ = some (.slice (some ⟨b, o, none⟩) n c) ∧ w'.cell? ⟨Bi, 0, none⟩ = some (.int .i64 (i : Nat)) ∧ w'.cell? ⟨N, 0, none⟩ = some (.int .u8 x0) ∧ w'.cell? ⟨N, 1, none⟩ = some (.int .i64 x1) ∧ w'.cell? ⟨N, 2, none⟩ = some (.int .i64 x2) ∧ w'.cell? ⟨N, 3, none⟩ = some (.int .i64 x3) ∧ w'.cell? ⟨b, o + i * 4 + 1, none⟩ = some (.int .i64 f) ∧ w'.cell? ⟨b, o + i * 4 + 3, none⟩ = some (.int .i64 d))
    (first | assumption | exact keepH (fun x y v hx hv => cell_grown hg2 (HNx.out x hx) hv) (by assumption) | exact keepH (fun _ _ _ _ hv => cell_up (Up.drew _) hv) (by assumption))
    ((go_at_call 47; ((with_reducible refine (HAd.out _ _ _ HB1d.out).mono ?_); rintro e w2 ⟨rfl, hb2, hg2⟩)))
  have hS2 : w2.cell? ⟨Ba, 0, none⟩ = some (.func (.func 47) #[] #[.pointer (some ⟨Bs, 0, none⟩)]) ∧ w2.cell? ⟨Bl, 0, none⟩ = some (.slice (some ⟨b, o, none⟩) n c) ∧ w2.cell? ⟨Bi, 0, none⟩ = some (.int .i64 (i : Nat)) ∧ w2.cell? ⟨N, 0, none⟩ = some (.int .u8 x0) ∧ w2.cell? ⟨N, 1, none⟩ = some (.int .i64 x1) ∧ w2.cell? ⟨N, 2, none⟩ = some (.int .i64 x2) ∧ w2.cell? ⟨N, 3, none⟩ = some (.int .i64 x3) ∧ w2.cell? ⟨b, o + i * 4 + 1, none⟩ = some (.int .i64 f) ∧ w2.cell? ⟨b, o + i * 4 + 3, none⟩ = some (.int .i64 d) := by assumption
  have HB2 := Lib.hid hb2
  have HG2 := Lib.hid (grown_trans HG1.out (drew_grown hg2))
  clear hS1 hb2 hg2 HB1d HB1 HG1
  have hb2d : Boxed w2.drew Bs 48 _ := HB2.out
  have HB2d := Lib.hid hb2d
  clear hb2d
  go_wp2_with fail
  go_region_held3 (fun w' => w'.cell? ⟨Ba, 0, none⟩ = some (.func (.func 47) #[] #[.pointer (some ⟨Bs, 0, none⟩)]) ∧ w'.cell? ⟨Bl, 0, none⟩ = some (.slice (some ⟨b, o, none⟩) n c) ∧ w'.cell? ⟨Bi, 0, none⟩ = some (.int .i64 (i : Nat)) ∧ w'.cell? ⟨N, 0, none⟩ = some (.int .u8 x0) ∧ w'.cell? ⟨N, 1, none⟩ = some (.int .i64 x1) ∧ w'.cell? ⟨N, 2, none⟩ = some (.int .i64 x2) ∧ w'.cell? ⟨N, 3, none⟩ = some (.int .i64 x3) ∧ w'.cell? ⟨b, o + i * 4 + 1, none⟩ = some (.int .i64 f) ∧ w'.cell? ⟨b, o + i * 4 + 3, none⟩ = some (.int .i64 d))
    (first | assumption | exact keepH (fun x y v hx hv => cell_grown hg3 (HNx.out x hx) hv) (by assumption) | exact keepH (fun _ _ _ _ hv => cell_up (Up.drew _) hv) (by assumption))
    ((go_at_call 47; ((with_reducible refine (HAd.out _ _ _ HB2d.out).mono ?_); rintro e w3 ⟨rfl, hb3, hg3⟩)))
  have hS3 : w3.cell? ⟨Ba, 0, none⟩ = some (.func (.func 47) #[] #[.pointer (some ⟨Bs, 0, none⟩)]) ∧ w3.cell? ⟨Bl, 0, none⟩ = some (.slice (some ⟨b, o, none⟩) n c) ∧ w3.cell? ⟨Bi, 0, none⟩ = some (.int .i64 (i : Nat)) ∧ w3.cell? ⟨N, 0, none⟩ = some (.int .u8 x0) ∧ w3.cell? ⟨N, 1, none⟩ = some (.int .i64 x1) ∧ w3.cell? ⟨N, 2, none⟩ = some (.int .i64 x2) ∧ w3.cell? ⟨N, 3, none⟩ = some (.int .i64 x3) ∧ w3.cell? ⟨b, o + i * 4 + 1, none⟩ = some (.int .i64 f) ∧ w3.cell? ⟨b, o + i * 4 + 3, none⟩ = some (.int .i64 d) := by assumption
  have HB3 := Lib.hid hb3
  have HG3 := Lib.hid (grown_trans HG2.out (drew_grown hg3))
  clear hS2 hb3 hg3 HB2d HB2 HG2
  have hb3d : Boxed w3.drew Bs 48 _ := HB3.out
  have HB3d := Lib.hid hb3d
  clear hb3d
  go_wp2_with fail
  go_region_held3 (fun w' => w'.cell? ⟨Ba, 0, none⟩ = some (.func (.func 47) #[] #[.pointer (some ⟨Bs, 0, none⟩)]) ∧ w'.cell? ⟨Bl, 0, none⟩ = some (.slice (some ⟨b, o, none⟩) n c) ∧ w'.cell? ⟨Bi, 0, none⟩ = some (.int .i64 (i : Nat)) ∧ w'.cell? ⟨N, 0, none⟩ = some (.int .u8 x0) ∧ w'.cell? ⟨N, 1, none⟩ = some (.int .i64 x1) ∧ w'.cell? ⟨N, 2, none⟩ = some (.int .i64 x2) ∧ w'.cell? ⟨N, 3, none⟩ = some (.int .i64 x3) ∧ w'.cell? ⟨b, o + i * 4 + 1, none⟩ = some (.int .i64 f) ∧ w'.cell? ⟨b, o + i * 4 + 3, none⟩ = some (.int .i64 d))
    (first | assumption | exact keepH (fun x y v hx hv => cell_grown hg4 (HNx.out x hx) hv) (by assumption) | exact keepH (fun _ _ _ _ hv => cell_up (Up.drew _) hv) (by assumption))
    ((go_at_call 47; ((with_reducible refine (HAd.out _ _ _ HB3d.out).mono ?_); rintro e w4 ⟨rfl, hb4, hg4⟩)))
  have hS4 : w4.cell? ⟨Ba, 0, none⟩ = some (.func (.func 47) #[] #[.pointer (some ⟨Bs, 0, none⟩)]) ∧ w4.cell? ⟨Bl, 0, none⟩ = some (.slice (some ⟨b, o, none⟩) n c) ∧ w4.cell? ⟨Bi, 0, none⟩ = some (.int .i64 (i : Nat)) ∧ w4.cell? ⟨N, 0, none⟩ = some (.int .u8 x0) ∧ w4.cell? ⟨N, 1, none⟩ = some (.int .i64 x1) ∧ w4.cell? ⟨N, 2, none⟩ = some (.int .i64 x2) ∧ w4.cell? ⟨N, 3, none⟩ = some (.int .i64 x3) ∧ w4.cell? ⟨b, o + i * 4 + 1, none⟩ = some (.int .i64 f) ∧ w4.cell? ⟨b, o + i * 4 + 3, none⟩ = some (.int .i64 d) := by assumption
  have HB4 := Lib.hid hb4
  have HG4 := Lib.hid (grown_trans HG3.out (drew_grown hg4))
  clear hS3 hb4 hg4 HB3d HB3 HG3
  go_wp2
  go_end0
  exact ⟨rfl, HB4.out, HG4.out⟩
end Go.Proofs.YtidnldchdahgeaaDoor
