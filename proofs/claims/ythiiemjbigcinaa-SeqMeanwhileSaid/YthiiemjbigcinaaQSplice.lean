/- The program's Splice, walked way by way. -/
import Derived.Test.YthiiemjbigcinaaQRoom
import Derived.Test.YthiiemjbigcinaaQGrow
namespace Go.Proofs.Ythiiemjbigcinaa
open Go.RowKit

set_option maxRecDepth 100000 in
set_option maxHeartbeats 2000000 in
theorem splice_nil (w : World) (i n : Int) (A : Option Addr) (k c' : Nat) (B : Option Addr) (m d : Nat) : Calls Try.prog 11 #[.pointer none, .int .i64 i, .int .i64 n, .slice A k c', .slice B m d] w fun e w' => e = .returned (.int .i64 8) ∧ Up w w' := by
  go_enter Try.func11, Try.ntmps11
  go_wp2
  go_ret
  exact ⟨rfl, Up.refl w⟩
set_option maxRecDepth 100000 in
set_option maxHeartbeats 2000000 in
theorem splice_r1 (w : World) (sb : Nat) (i n : Int) (A : Option Addr) (k c' : Nat) (B : Option Addr) (m d : Nat) (h : i < 0) : Calls Try.prog 11 #[ptr sb, .int .i64 i, .int .i64 n, .slice A k c', .slice B m d] w fun e w' => e = .returned (.int .i64 5) ∧ Up w w' := by
  go_enter Try.func11, Try.ntmps11
  go_wp2
  go_ret
  exact ⟨rfl, Up.refl w⟩
set_option maxRecDepth 100000 in
set_option maxHeartbeats 2000000 in
theorem splice_r2 (w : World) (sb : Nat) (i n : Int) (A : Option Addr) (k c' : Nat) (B : Option Addr) (m d : Nat) (h0 : decide (i < 0) = false) (h : n < 0) : Calls Try.prog 11 #[ptr sb, .int .i64 i, .int .i64 n, .slice A k c', .slice B m d] w fun e w' => e = .returned (.int .i64 5) ∧ Up w w' := by
  go_enter Try.func11, Try.ntmps11
  go_wp2
  go_ret
  exact ⟨rfl, Up.refl w⟩
set_option maxRecDepth 100000 in
set_option maxHeartbeats 2000000 in
theorem splice_r3 (w : World) (sb c : Nat) (i n : Int) (A : Option Addr) (k c' : Nat) (B : Option Addr) (m d : Nat) (K : SLn w (ptr sb) c) (h0 : decide (i < 0) = false) (h1 : decide (n < 0) = false) (h : (c : Int) < i) : Calls Try.prog 11 #[ptr sb, .int .i64 i, .int .i64 n, .slice A k c', .slice B m d] w fun e w' => e = .returned (.int .i64 5) ∧ Up w w' := by
  have HL := Lib.hid K
  have hU := Up.refl w
  clear K
  go_enter Try.func11, Try.ntmps11
  go_wp2_with (go_at_call 12; ((with_reducible refine (HL.out.at_ hU).mono ?_); rintro e w1 ⟨rfl, hu1⟩; have hU := hU.trans hu1; clear hu1))
  go_ret
  exact ⟨rfl, hU⟩
set_option maxRecDepth 100000 in
set_option maxHeartbeats 2000000 in
theorem splice_r4 (w : World) (sb c : Nat) (i n : Int) (A : Option Addr) (k c' : Nat) (B : Option Addr) (m d : Nat) (K : SLn w (ptr sb) c) (h0 : decide (i < 0) = false) (h1 : decide (n < 0) = false) (h2 : decide ((c : Int) < i) = false) (e1 : IntKind.i64.wrap ((c : Int) - i) = (c : Int) - i) (h : (c : Int) - i < n) : Calls Try.prog 11 #[ptr sb, .int .i64 i, .int .i64 n, .slice A k c', .slice B m d] w fun e w' => e = .returned (.int .i64 5) ∧ Up w w' := by
  have HL := Lib.hid K
  have hU := Up.refl w
  clear K
  go_enter Try.func11, Try.ntmps11
  go_wp2_with (go_at_call 12; ((with_reducible refine (HL.out.at_ hU).mono ?_); rintro e w1 ⟨rfl, hu1⟩; have hU := hU.trans hu1; clear hu1))
  go_ret
  exact ⟨rfl, hU⟩
set_option maxRecDepth 100000 in
set_option maxHeartbeats 2000000 in
theorem splice_a1 (w : World) (sb c : Nat) (i n : Int) (A : Option Addr) (k c' : Nat) (B : Option Addr) (m d : Nat) (K : SLn w (ptr sb) c) (h0 : decide (i < 0) = false) (h1 : decide (n < 0) = false) (h2 : decide ((c : Int) < i) = false) (e1 : IntKind.i64.wrap ((c : Int) - i) = (c : Int) - i) (h3 : decide ((c : Int) - i < n) = false) (h4 : ¬ k = m) : Calls Try.prog 11 #[ptr sb, .int .i64 i, .int .i64 n, .slice A k c', .slice B m d] w fun e w' => e = .returned (.int .i64 1) ∧ Up w w' := by
  have HL := Lib.hid K
  have hU := Up.refl w
  clear K
  go_enter Try.func11, Try.ntmps11
  go_wp2_with (first
    | (go_at_call 12; ((with_reducible refine (HL.out.at_ hU).mono ?_); rintro e w1 ⟨rfl, hu1⟩; have hU := hU.trans hu1; clear hu1))
    )
  go_ret
  exact ⟨rfl, hU⟩
set_option maxRecDepth 100000 in
set_option maxHeartbeats 2000000 in
theorem splice_a2 (w : World) (sb c : Nat) (i n : Int) (A : Option Addr) (k c' : Nat) (B : Option Addr) (d : Nat) (K : SLn w (ptr sb) c) (h0 : decide (i < 0) = false) (h1 : decide (n < 0) = false) (h2 : decide ((c : Int) < i) = false) (e1 : IntKind.i64.wrap ((c : Int) - i) = (c : Int) - i) (h3 : decide ((c : Int) - i < n) = false) (PCO : ∀ W, Up w W → Calls Try.prog 23 #[.slice B k d, .func (.func 24) #[] #[]] W fun e w' => e = .returned (.bool true) ∧ Up W w') : Calls Try.prog 11 #[ptr sb, .int .i64 i, .int .i64 n, .slice A k c', .slice B k d] w fun e w' => e = .returned (.int .i64 1) ∧ Up w w' := by
  have HL := Lib.hid K
  have HCO := Lib.hid PCO
  have hU := Up.refl w
  clear K PCO
  go_enter Try.func11, Try.ntmps11
  go_wp2_with (first
    | (go_at_call 12; ((with_reducible refine (HL.out.at_ hU).mono ?_); rintro e w1 ⟨rfl, hu1⟩; have hU := hU.trans hu1; clear hu1))
    | (go_at_call 23; ((with_reducible refine (HCO.out _ hU).mono ?_); rintro e w1 ⟨rfl, hu1⟩; have hU := hU.trans hu1; clear hu1))
    )
  go_ret
  exact ⟨rfl, hU⟩
set_option maxRecDepth 100000 in
set_option maxHeartbeats 2000000 in
theorem splice_lo (w : World) (sb c : Nat) (i n : Int) (A : Option Addr) (k c' : Nat) (B : Option Addr) (d : Nat) (K : SLn w (ptr sb) c) (h0 : decide (i < 0) = false) (h1 : decide (n < 0) = false) (h2 : decide ((c : Int) < i) = false) (e1 : IntKind.i64.wrap ((c : Int) - i) = (c : Int) - i) (h3 : decide ((c : Int) - i < n) = false) (PCO : ∀ W, Up w W → Calls Try.prog 23 #[.slice B k d, .func (.func 24) #[] #[]] W fun e w' => e = .returned (.bool false) ∧ Up W w') (PRO : ∀ W, Up w W → Calls Try.prog 25 #[ptr sb, .int .i64 i, .int .i64 n, .slice B k d] W fun e w' => e = .returned (.bool false) ∧ Up W w') : Calls Try.prog 11 #[ptr sb, .int .i64 i, .int .i64 n, .slice A k c', .slice B k d] w fun e w' => e = .returned (.int .i64 2) ∧ Up w w' := by
  have HL := Lib.hid K
  have HCO := Lib.hid PCO
  have HRO := Lib.hid PRO
  have hU := Up.refl w
  clear K PCO PRO
  go_enter Try.func11, Try.ntmps11
  go_wp2_with (first
    | (go_at_call 12; ((with_reducible refine (HL.out.at_ hU).mono ?_); rintro e w1 ⟨rfl, hu1⟩; have hU := hU.trans hu1; clear hu1))
    | (go_at_call 23; ((with_reducible refine (HCO.out _ hU).mono ?_); rintro e w1 ⟨rfl, hu1⟩; have hU := hU.trans hu1; clear hu1))
    | (go_at_call 25; ((with_reducible refine (HRO.out _ hU).mono ?_); rintro e w1 ⟨rfl, hu1⟩; have hU := hU.trans hu1; clear hu1))
    )
  go_ret
  exact ⟨rfl, hU⟩
set_option maxRecDepth 100000 in
set_option maxHeartbeats 2000000 in
theorem splice_ok {G : Nat → Prop} (w : World) (sb c : Nat) (i n : Int) (A : Option Addr) (k c' : Nat) (B : Option Addr) (d : Nat) (p : Option Addr) (A0 B0 B1 M R1 R2 : Row) (K : SLn w (ptr sb) c) (h0 : decide (i < 0) = false) (h1 : decide (n < 0) = false) (h2 : decide ((c : Int) < i) = false) (e1 : IntKind.i64.wrap ((c : Int) - i) = (c : Int) - i) (h3 : decide ((c : Int) - i < n) = false) (hb : w.heap[sb]? = some (.cells #[.pointer p] 50))
    (PCO : ∀ W, Up w W → Calls Try.prog 23 #[.slice B k d, .func (.func 24) #[] #[]] W fun e w' => e = .returned (.bool false) ∧ Up W w') (PRO : ∀ W, Up w W → Calls Try.prog 25 #[ptr sb, .int .i64 i, .int .i64 n, .slice B k d] W fun e w' => e = .returned (.bool true) ∧ Up W w')
    (P1 : ∀ W, Up w W → Calls Try.prog 26 #[.pointer p, .int .i64 i] W (CPost G A0 B0 W))
    (P2 : ∀ W t v, Up w W → (Tr G W t v ∧ Av t ∧ t.row = B0) → Calls Try.prog 26 #[v, .int .i64 n] W fun e w' => ∃ ta tb va vb, e = .returned (.tuple #[va, vb]) ∧ Tr G w' ta va ∧ Tr G w' tb vb ∧ Av ta ∧ Av tb ∧ ta.row = ta.row ∧ tb.row = B1 ∧ Up W w')
    (P3 : ∀ W, Up w W → Calls Try.prog 28 #[.slice A k c', .slice B k d] W (GPost G M W))
    (P4 : ∀ W t v t' v', Up w W → (Tr G W t v ∧ Av t ∧ t.row = A0) → (Tr G W t' v' ∧ Av t' ∧ t'.row = M) → Calls Try.prog 27 #[v, v'] W (RPost G R1 W))
    (P5 : ∀ W t v t' v', Up w W → (Tr G W t v ∧ Av t ∧ t.row = R1) → (Tr G W t' v' ∧ Av t' ∧ t'.row = B1) → Calls Try.prog 27 #[v, v'] W (RPost G R2 W)) :
    Calls Try.prog 11 #[ptr sb, .int .i64 i, .int .i64 n, .slice A k c', .slice B k d] w fun e w' => e = .returned (.int .i64 0) ∧ ∃ t v w1, w' = w1.setCell ⟨sb, 0, none⟩ v ∧ Up w w1 ∧ Tr G w1 t v ∧ Av t ∧ t.row = R2 := by
  have c0 : w.cell? ⟨sb, 0, none⟩ = some (.pointer p) := cellOf hb rfl
  have HB := Lib.hid hb
  have f0 := frozenOf (j := 0) hb
  clear hb
  have HL := Lib.hid K
  have HCO := Lib.hid PCO
  have HRO := Lib.hid PRO
  have HC1 := Lib.hid P1
  have HC2 := Lib.hid P2
  have HG := Lib.hid P3
  have HL1 := Lib.hid P4
  have HL2 := Lib.hid P5
  have hU := Up.refl w
  clear K PCO PRO P1 P2 P3 P4 P5
  go_enter Try.func11, Try.ntmps11
  go_wp2_with (first
    | (go_at_call 12; ((with_reducible refine (HL.out.at_ hU).mono ?_); rintro e w1 ⟨rfl, hu1⟩; have c0 := cell_up hu1 c0; have HB := Lib.hid (boxD HB.out hu1); have f0 := frozenOf (j := 0) HB.out; have hU := hU.trans hu1; clear hu1))
    | (go_at_call 23; ((with_reducible refine (HCO.out _ hU).mono ?_); rintro e w1 ⟨rfl, hu1⟩; have c0 := cell_up hu1 c0; have HB := Lib.hid (boxD HB.out hu1); have f0 := frozenOf (j := 0) HB.out; have hU := hU.trans hu1; clear hu1))
    | (go_at_call 25; ((with_reducible refine (HRO.out _ hU).mono ?_); rintro e w1 ⟨rfl, hu1⟩; have c0 := cell_up hu1 c0; have HB := Lib.hid (boxD HB.out hu1); have f0 := frozenOf (j := 0) HB.out; have hU := hU.trans hu1; clear hu1))
    | (go_at_call 26; ((with_reducible refine (HC1.out _ hU).mono ?_); rintro e w1 ⟨ta, tb, va, vb, rfl, k1, k2, k3, k4, k5, k6, hu1⟩; have c0 := cell_up hu1 c0; have HB := Lib.hid (boxD HB.out hu1); have f0 := frozenOf (j := 0) HB.out; have hU := hU.trans hu1; have HA := Lib.hid (And.intro k1 (And.intro k3 k5)); have HBt := Lib.hid (And.intro k2 (And.intro k4 k6)); clear hu1 k1 k2 k3 k4 k5 k6))
    | (go_at_call 26; ((with_reducible refine (HC2.out _ tb _ hU HBt.out).mono ?_); rintro e w1 ⟨tx, tc, vx, vc, rfl, -, k2, -, k4, -, k6, hu1⟩; have c0 := cell_up hu1 c0; have HB := Lib.hid (boxD HB.out hu1); have f0 := frozenOf (j := 0) HB.out; have hU := hU.trans hu1; have HA := Lib.hid (And.intro (HA.out.1.up hu1) HA.out.2); have HCt := Lib.hid (And.intro k2 (And.intro k4 k6)); clear hu1 k2 k4 k6 HBt))
    | (go_at_call 28; ((with_reducible refine (HG.out _ hU).mono ?_); rintro e w1 ⟨tg, vg, rfl, k1, k2, k3, -, hu1⟩; have c0 := cell_up hu1 c0; have HB := Lib.hid (boxD HB.out hu1); have f0 := frozenOf (j := 0) HB.out; have hU := hU.trans hu1; have HA := Lib.hid (And.intro (HA.out.1.up hu1) HA.out.2); have HCt := Lib.hid (And.intro (HCt.out.1.up hu1) HCt.out.2); have HGt := Lib.hid (And.intro k1 (And.intro k2 k3)); clear hu1 k1 k2 k3))
    | (go_at_call 27; ((with_reducible refine (HL1.out _ ta _ tg _ hU HA.out HGt.out).mono ?_); rintro e w1 ⟨tl, vl, rfl, k1, k2, k3, hu1⟩; have c0 := cell_up hu1 c0; have HB := Lib.hid (boxD HB.out hu1); have f0 := frozenOf (j := 0) HB.out; have hU := hU.trans hu1; have HCt := Lib.hid (And.intro (HCt.out.1.up hu1) HCt.out.2); have HLt := Lib.hid (And.intro k1 (And.intro k2 k3)); clear hu1 k1 k2 k3 HGt HA))
    | (go_at_call 27; ((with_reducible refine (HL2.out _ tl _ tc _ hU HLt.out HCt.out).mono ?_); rintro e w1 ⟨tz, vz, rfl, k1, k2, k3, hu1⟩; obtain ⟨pz, rfl⟩ := k1.isPtr; have c0 := cell_up hu1 c0; have HB := Lib.hid (boxD HB.out hu1); have f0 := frozenOf (j := 0) HB.out; have hU := hU.trans hu1; have HZt := Lib.hid (And.intro k1 (And.intro k2 k3)); clear hu1 k1 k2 k3 HLt HCt))
    )
  go_ret
  exact ⟨rfl, tz, .pointer pz, w1, rfl, hU, HZt.out.1, HZt.out.2.1, HZt.out.2.2⟩
end Go.Proofs.Ythiiemjbigcinaa
