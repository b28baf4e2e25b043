/- A row's head: what is counted of it, and what is asked of it. -/
import Derived.Test.YthiiemjbigcinaaQDown
import Derived.Test.YthiiemjbigcinaaQLevel
import Derived.Test.YthiiemjbigcinaaQNil
namespace Go.Proofs.Ythiiemjbigcinaa
open Go.RowKit

theorem qset3 {w : World} {N : Nat} {a b c u v x : Value} {T : TypeId} (h : w.heap[N]? = some (.cells #[a, b, c] T)) : (((w.setCell ⟨N, 0, none⟩ u).setCell ⟨N, 1, none⟩ v).setCell ⟨N, 2, none⟩ x).heap[N]? = some (.cells #[u, v, x] T) := by
  simp [World.setCell, Array.getElem?_modify, h]
theorem below3 {w w' : World} {N : Nat} (h : Up w w') (hN : w.heap.size = N) (u v x : Value) : Up w (((w'.setCell ⟨N, 0, none⟩ u).setCell ⟨N, 1, none⟩ v).setCell ⟨N, 2, none⟩ x) :=
  (((Below.setCell h (p := ⟨N, 0, none⟩) (Nat.le_of_eq hN) _).setCell (p := ⟨N, 1, none⟩) (Nat.le_of_eq hN) _)).setCell (p := ⟨N, 2, none⟩) (Nat.le_of_eq hN) _
set_option maxRecDepth 100000 in
set_option maxHeartbeats 1000000 in
theorem scnt_nil (w : World) : Calls Try.prog 29 #[.pointer none] w fun e w' => e = .returned (.agg #[.int .i64 0, .int .i64 0, .int .i64 0]) ∧ Up w w' := by
  go_enter Try.func29, Try.ntmps29
  go_wp2
  (try simp only [Exit.inBlock, Exit.then]); refine bodyPost_ret (results_cell_row (ty := 65) rfl _ _ w.heap.size _ _ _ _ rfl (Go.heap_alloc_new _ _) Try.underlying65 rfl (by kernel_rfl)) rfl ?_
  exact ⟨rfl, Up.alloc _ _⟩
set_option maxRecDepth 100000 in
set_option maxHeartbeats 1000000 in
theorem scnt_row (w : World) (sb : Nat) (p : Option Addr) (c d : Nat) (s : Int) (c0 : w.cell? ⟨sb, 0, none⟩ = some (.pointer p)) (K : CntC w (.pointer p) c s d) :
    Calls Try.prog 29 #[ptr sb] w fun e w' => e = .returned (.agg #[.int .i64 (c : Nat), .int .i64 s, .int .i64 (d : Nat)]) ∧ Up w w' := by
  have HK := Lib.hid K
  have hU := Up.alloc w (.cells #[.int .i64 0, .int .i64 0, .int .i64 0] 65)
  have k0 := cell_up hU c0
  have HB := Lib.hid (show (w.alloc (.cells #[.int .i64 0, .int .i64 0, .int .i64 0] 65)).heap[w.heap.size]? = some (.cells #[.int .i64 0, .int .i64 0, .int .i64 0] 65) from Go.heap_alloc_new _ _)
  clear K c0
  go_enter Try.func29, Try.ntmps29
  go_wp2_with (go_at_call 30; ((with_reducible refine (HK.out.at_ hU).mono ?_); rintro e w1 ⟨rfl, hu1⟩; have HB := Lib.hid (boxD HB.out hu1); have z0 := cellOf (j := 0) HB.out rfl; have z1 := cellOf (j := 1) HB.out rfl; have z2 := cellOf (j := 2) HB.out rfl; have y0 := frozenOf (j := 0) HB.out; have y1 := frozenOf (j := 1) HB.out; have y2 := frozenOf (j := 2) HB.out; have hU := hU.trans hu1))
  have hbx := qset3 (u := .int .i64 (c : Nat)) (v := .int .i64 s) (x := .int .i64 (d : Nat)) HB.out
  (try simp only [Exit.inBlock, Exit.then]); refine bodyPost_ret (results_cell_row (ty := 65) rfl _ _ w.heap.size _ _ _ _ rfl hbx Try.underlying65 rfl (by kernel_rfl)) rfl ?_
  exact ⟨rfl, below3 hU rfl _ _ _⟩
def SCnt (w : World) (v : Value) (c : Nat) (s : Int) (d : Nat) : Prop := ∀ W, Up w W → Calls Try.prog 29 #[v] W fun e w' => e = .returned (.agg #[.int .i64 (c : Nat), .int .i64 s, .int .i64 (d : Nat)]) ∧ Up W w'
theorem SCnt.at_ {w W : World} {v : Value} {c d : Nat} {s : Int} (h : SCnt w v c s d) (hu : Up w W) : Calls Try.prog 29 #[v] W fun e w' => e = .returned (.agg #[.int .i64 (c : Nat), .int .i64 s, .int .i64 (d : Nat)]) ∧ Up W w' := h W hu
set_option maxRecDepth 100000 in
set_option maxHeartbeats 1000000 in
theorem slen_of (w : World) (p : Option Addr) (c d : Nat) (s : Int) (K : SCnt w (.pointer p) c s d) : Calls Try.prog 12 #[.pointer p] w fun e w' => e = .returned (.int .i64 (c : Nat)) ∧ Up w w' := by
  have HK := Lib.hid K
  have hU := Up.refl w
  have hfd := fld0 (c : Nat) s (d : Nat)
  clear K
  go_enter Try.func12, Try.ntmps12
  go_wp2_with (go_at_call 29; ((with_reducible refine (HK.out.at_ hU).mono ?_); rintro e w1 ⟨rfl, hu1⟩))
  go_ret
  exact ⟨rfl, hu1⟩
set_option maxRecDepth 100000 in
set_option maxHeartbeats 1000000 in
theorem ssize_of (w : World) (p : Option Addr) (c d : Nat) (s : Int) (K : SCnt w (.pointer p) c s d) : Calls Try.prog 13 #[.pointer p] w fun e w' => e = .returned (.int .i64 s) ∧ Up w w' := by
  have HK := Lib.hid K
  have hU := Up.refl w
  have hfd := fld1 (c : Nat) s (d : Nat)
  clear K
  go_enter Try.func13, Try.ntmps13
  go_wp2_with (go_at_call 29; ((with_reducible refine (HK.out.at_ hU).mono ?_); rintro e w1 ⟨rfl, hu1⟩))
  go_ret
  exact ⟨rfl, hu1⟩
set_option maxRecDepth 100000 in
set_option maxHeartbeats 1000000 in
theorem sdeep_of (w : World) (p : Option Addr) (c d : Nat) (s : Int) (K : SCnt w (.pointer p) c s d) : Calls Try.prog 14 #[.pointer p] w fun e w' => e = .returned (.int .i64 (d : Nat)) ∧ Up w w' := by
  have HK := Lib.hid K
  have hU := Up.refl w
  have hfd := fld2 (c : Nat) s (d : Nat)
  clear K
  go_enter Try.func14, Try.ntmps14
  go_wp2_with (go_at_call 29; ((with_reducible refine (HK.out.at_ hU).mono ?_); rintro e w1 ⟨rfl, hu1⟩))
  go_ret
  exact ⟨rfl, hu1⟩
def SLn (w : World) (v : Value) (c : Nat) : Prop := ∀ W, Up w W → Calls Try.prog 12 #[v] W fun e w' => e = .returned (.int .i64 (c : Nat)) ∧ Up W w'
theorem SLn.at_ {w W : World} {v : Value} {c : Nat} (h : SLn w v c) (hu : Up w W) : Calls Try.prog 12 #[v] W fun e w' => e = .returned (.int .i64 (c : Nat)) ∧ Up W w' := h W hu
def SSz (w : World) (v : Value) (s : Int) : Prop := ∀ W, Up w W → Calls Try.prog 13 #[v] W fun e w' => e = .returned (.int .i64 s) ∧ Up W w'
theorem SSz.at_ {w W : World} {v : Value} {s : Int} (h : SSz w v s) (hu : Up w W) : Calls Try.prog 13 #[v] W fun e w' => e = .returned (.int .i64 s) ∧ Up W w' := h W hu
set_option maxRecDepth 100000 in
set_option maxHeartbeats 1000000 in
theorem new_any (w : World) : Calls Try.prog 17 #[] w fun e w' => e = .returned (ptr w.heap.size) ∧ w' = w.alloc (.cells #[.pointer none] 50) := by
  go_enter Try.func17, Try.ntmps17
  go_wp2
  go_ret
  exact ⟨rfl, rfl⟩
set_option maxRecDepth 100000 in
set_option maxHeartbeats 1000000 in
theorem at_nil (w : World) (i : Int) : Calls Try.prog 7 #[.pointer none, .int .i64 i] w fun e w' => e = .returned (.tuple #[.string ⟨#[]⟩, .int .i64 0, .int .i64 8]) ∧ Up w w' := by
  go_enter Try.func7, Try.ntmps7
  go_wp2
  go_ret3
  exact ⟨rfl, Up.refl w⟩
set_option maxRecDepth 100000 in
set_option maxHeartbeats 1000000 in
theorem at_low (w : World) (sb : Nat) (i : Int) (h : i < 0) : Calls Try.prog 7 #[ptr sb, .int .i64 i] w fun e w' => e = .returned (.tuple #[.string ⟨#[]⟩, .int .i64 0, .int .i64 5]) ∧ Up w w' := by
  go_enter Try.func7, Try.ntmps7
  go_wp2
  go_ret3
  exact ⟨rfl, Up.refl w⟩
set_option maxRecDepth 100000 in
set_option maxHeartbeats 1000000 in
theorem at_high (w : World) (sb : Nat) (c : Nat) (K : SLn w (ptr sb) c) (i : Int) (h0 : decide (i < 0) = false) (h : (c : Int) ≤ i) : Calls Try.prog 7 #[ptr sb, .int .i64 i] w fun e w' => e = .returned (.tuple #[.string ⟨#[]⟩, .int .i64 0, .int .i64 5]) ∧ Up w w' := by
  have HL := Lib.hid K
  have hU := Up.refl w
  clear K
  go_enter Try.func7, Try.ntmps7
  go_wp2_with (go_at_call 12; ((with_reducible refine (HL.out.at_ hU).mono ?_); rintro e w1 ⟨rfl, hu1⟩; have hU := hU.trans hu1; clear hu1))
  go_ret3
  exact ⟨rfl, hU⟩
set_option maxRecDepth 100000 in
set_option maxHeartbeats 1000000 in
theorem sum_nil (w : World) (i : Int) : Calls Try.prog 8 #[.pointer none, .int .i64 i] w fun e w' => e = .returned (.tuple #[.int .i64 0, .int .i64 8]) ∧ Up w w' := by
  go_enter Try.func8, Try.ntmps8
  go_wp2
  go_ret2
  exact ⟨rfl, Up.refl w⟩
set_option maxRecDepth 100000 in
set_option maxHeartbeats 1000000 in
theorem sum_low (w : World) (sb : Nat) (i : Int) (h : i < 0) : Calls Try.prog 8 #[ptr sb, .int .i64 i] w fun e w' => e = .returned (.tuple #[.int .i64 0, .int .i64 5]) ∧ Up w w' := by
  go_enter Try.func8, Try.ntmps8
  go_wp2
  go_ret2
  exact ⟨rfl, Up.refl w⟩
set_option maxRecDepth 100000 in
set_option maxHeartbeats 1000000 in
theorem sum_high (w : World) (sb : Nat) (c : Nat) (K : SLn w (ptr sb) c) (i : Int) (h0 : decide (i < 0) = false) (h : (c : Int) < i) : Calls Try.prog 8 #[ptr sb, .int .i64 i] w fun e w' => e = .returned (.tuple #[.int .i64 0, .int .i64 5]) ∧ Up w w' := by
  have HL := Lib.hid K
  have hU := Up.refl w
  clear K
  go_enter Try.func8, Try.ntmps8
  go_wp2_with (go_at_call 12; ((with_reducible refine (HL.out.at_ hU).mono ?_); rintro e w1 ⟨rfl, hu1⟩; have hU := hU.trans hu1; clear hu1))
  go_ret2
  exact ⟨rfl, hU⟩
set_option maxRecDepth 100000 in
set_option maxHeartbeats 1000000 in
theorem find_nil (w : World) (i : Int) : Calls Try.prog 9 #[.pointer none, .int .i64 i] w fun e w' => e = .returned (.tuple #[.int .i64 0, .int .i64 0, .int .i64 8]) ∧ Up w w' := by
  go_enter Try.func9, Try.ntmps9
  go_wp2
  go_ret3
  exact ⟨rfl, Up.refl w⟩
set_option maxRecDepth 100000 in
set_option maxHeartbeats 1000000 in
theorem find_low (w : World) (sb : Nat) (i : Int) (h : i < 0) : Calls Try.prog 9 #[ptr sb, .int .i64 i] w fun e w' => e = .returned (.tuple #[.int .i64 0, .int .i64 0, .int .i64 5]) ∧ Up w w' := by
  go_enter Try.func9, Try.ntmps9
  go_wp2
  go_ret3
  exact ⟨rfl, Up.refl w⟩
set_option maxRecDepth 100000 in
set_option maxHeartbeats 1000000 in
theorem find_high (w : World) (sb : Nat) (s : Int) (K : SSz w (ptr sb) s) (i : Int) (h0 : decide (i < 0) = false) (h : s ≤ i) : Calls Try.prog 9 #[ptr sb, .int .i64 i] w fun e w' => e = .returned (.tuple #[.int .i64 0, .int .i64 0, .int .i64 5]) ∧ Up w w' := by
  have HL := Lib.hid K
  have hU := Up.refl w
  clear K
  go_enter Try.func9, Try.ntmps9
  go_wp2_with (go_at_call 13; ((with_reducible refine (HL.out.at_ hU).mono ?_); rintro e w1 ⟨rfl, hu1⟩; have hU := hU.trans hu1; clear hu1))
  go_ret3
  exact ⟨rfl, hU⟩
set_option maxRecDepth 100000 in
set_option maxHeartbeats 1000000 in
theorem at_ok (w : World) (sb : Nat) (p : Option Addr) (c k : Nat) (x : ByteArray × Int) (K : SLn w (ptr sb) c) (hk : ¬ c ≤ k) (c0 : w.cell? ⟨sb, 0, none⟩ = some (.pointer p))
    (PA : ∀ W, Up w W → Calls Try.prog 18 #[.pointer p, .int .i64 (k : Nat)] W fun e w' => e = .returned (thV x) ∧ Up W w') :
    Calls Try.prog 7 #[ptr sb, .int .i64 (k : Nat)] w fun e w' => e = .returned (.tuple #[.string x.1, .int .i64 x.2, .int .i64 0]) ∧ Up w w' := by
  have HL := Lib.hid K
  have HP := Lib.hid PA
  have hU := Up.refl w
  have f0 : decide ((k : Int) < 0) = false := decide_eq_false (by omega)
  have f1 : decide (c ≤ k) = false := decide_eq_false hk
  clear K PA
  go_enter Try.func7, Try.ntmps7
  go_wp2_with (first
    | (go_at_call 12; ((with_reducible refine (HL.out.at_ hU).mono ?_); rintro e w1 ⟨rfl, hu1⟩; have hU := hU.trans hu1; have c0 := cell_up hu1 c0; clear hu1))
    | (go_at_call 18; ((with_reducible refine (HP.out _ hU).mono ?_); rintro e w2 ⟨rfl, hu2⟩; have hU := hU.trans (hu2.trans (Up.alloc w2 (.cells #[.string x.1, .int .i64 x.2] 47))); have z0 : (w2.alloc (.cells #[.string x.1, .int .i64 x.2] 47)).cell? ⟨w2.heap.size, 0, none⟩ = some (.string x.1) := cellOf (Go.heap_alloc_new _ _) rfl; have z1 : (w2.alloc (.cells #[.string x.1, .int .i64 x.2] 47)).cell? ⟨w2.heap.size, 1, none⟩ = some (.int .i64 x.2) := cellOf (Go.heap_alloc_new _ _) rfl; clear hu2)))
  go_quiet (fail)
  go_wp2
  go_ret3
  exact ⟨rfl, hU.trans (Up.drewN _ _)⟩
set_option maxRecDepth 100000 in
set_option maxHeartbeats 1000000 in
theorem sum_ok (w : World) (sb : Nat) (p : Option Addr) (c k : Nat) (z : Int) (K : SLn w (ptr sb) c) (hk : ¬ c < k) (c0 : w.cell? ⟨sb, 0, none⟩ = some (.pointer p))
    (PA : ∀ W, Up w W → Calls Try.prog 19 #[.pointer p, .int .i64 (k : Nat)] W fun e w' => e = .returned (.int .i64 z) ∧ Up W w') :
    Calls Try.prog 8 #[ptr sb, .int .i64 (k : Nat)] w fun e w' => e = .returned (.tuple #[.int .i64 z, .int .i64 0]) ∧ Up w w' := by
  have HL := Lib.hid K
  have HP := Lib.hid PA
  have hU := Up.refl w
  have f0 : decide ((k : Int) < 0) = false := decide_eq_false (by omega)
  have f1 : decide (c < k) = false := decide_eq_false hk
  clear K PA
  go_enter Try.func8, Try.ntmps8
  go_wp2_with (first
    | (go_at_call 12; ((with_reducible refine (HL.out.at_ hU).mono ?_); rintro e w1 ⟨rfl, hu1⟩; have hU := hU.trans hu1; have c0 := cell_up hu1 c0; clear hu1))
    | (go_at_call 19; ((with_reducible refine (HP.out _ hU).mono ?_); rintro e w2 ⟨rfl, hu2⟩; have hU := hU.trans hu2; clear hu2)))
  go_ret2
  exact ⟨rfl, hU⟩
set_option maxRecDepth 100000 in
set_option maxHeartbeats 1000000 in
theorem find_ok (w : World) (sb : Nat) (p : Option Addr) (s off : Int) (Q : Nat → Int → Prop) (K : SSz w (ptr sb) s) (h0 : decide (off < 0) = false) (hk : decide (s ≤ off) = false) (c0 : w.cell? ⟨sb, 0, none⟩ = some (.pointer p))
    (PA : ∀ W, Up w W → Calls Try.prog 20 #[.pointer p, .int .i64 off] W fun e w' => ∃ (i : Nat) (r : Int), e = .returned (.tuple #[.int .i64 (i : Nat), .int .i64 r]) ∧ Q i r ∧ Up W w') :
    Calls Try.prog 9 #[ptr sb, .int .i64 off] w fun e w' => (∃ (i : Nat) (r : Int), e = .returned (.tuple #[.int .i64 (i : Nat), .int .i64 r, .int .i64 0]) ∧ Q i r) ∧ Up w w' := by
  have HL := Lib.hid K
  have HP := Lib.hid PA
  have hU := Up.refl w
  clear K PA
  go_enter Try.func9, Try.ntmps9
  go_wp2_with (first
    | (go_at_call 13; ((with_reducible refine (HL.out.at_ hU).mono ?_); rintro e w1 ⟨rfl, hu1⟩; have hU := hU.trans hu1; have c0 := cell_up hu1 c0; clear hu1))
    | (go_at_call 20; ((with_reducible refine (HP.out _ hU).mono ?_); rintro e w2 ⟨i, r, rfl, hq, hu2⟩; have hU := hU.trans hu2; have HQ := Lib.hid hq; clear hu2 hq)))
  go_ret3
  exact ⟨⟨i, r, rfl, HQ.out⟩, hU⟩
end Go.Proofs.Ythiiemjbigcinaa
