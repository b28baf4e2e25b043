/- MdmarkRows, put together of the classes of rows. -/
import Derived.Test.YtopdbilkpkgccaaDoorMkRowW1
import Derived.Test.YtopdbilkpkgccaaDoorMkRowW2
import Derived.Test.YtopdbilkpkgccaaDoorMkP5R
namespace Go.Proofs.YtopdbilkpkgccaaDoor
open Go.RowKit

theorem mk8 {a : Int} (h : (Lit.int .u8 a).wf = true) : 0 ≤ a ∧ a ≤ 255 := by
  simpa [Lit.wf, IntKind.min, IntKind.max, IntKind.signed, IntKind.bits] using h
theorem row_size {X : ByteArray} {c n r : Nat} (h : bl X = rowS c n r) : X.size = n + r := by
  rw [← bl_len, h]
  unfold rowS
  simp
theorem row_size10 {X : ByteArray} {c n r : Nat} (h : bl X = rowS c n r ++ [10]) : X.size = n + r + 1 := by
  rw [← bl_len, h]
  unfold rowS
  simp
  omega
theorem rule_row {c n r : Nat} (h0 : 0 < n) (hn : n ≤ 60) (hr : r < 5) (hb : bk c = false) (h10 : c ≠ 10) (X : ByteArray) (W : World) (hX : bl X = rowS c n r) : Calls Tryd.prog 7 #[.string X, .int .i64 0] W fun e w' => e = .returned (mkV (if okR c = true ∧ 3 ≤ n then (⟨c, n, 0, 0, 0, n⟩, true) else (noM, false))) ∧ Up W w' := by
  have h := pRule_any X 0 W (by rw [row_size hX]; omega)
  rwa [hX, row_rest h10, show (0 : Int).toNat = 0 from rfl, row_rule h0 hb] at h
theorem under_row {c n r : Nat} (h0 : 0 < n) (hn : n ≤ 60) (hr : r < 5) (hb : bk c = false) (h10 : c ≠ 10) (X : ByteArray) (W : World) (hX : bl X = rowS c n r) : Calls Tryd.prog 9 #[.string X, .int .i64 0] W fun e w' => e = .returned (mkV (if c = 61 ∨ c = 45 then (⟨c, n, 0, 0, 0, n⟩, true) else (noM, false))) ∧ Up W w' := by
  have h := pUnder_any X 0 W (by rw [row_size hX]; omega)
  rwa [hX, row_rest h10, show (0 : Int).toNat = 0 from rfl, row_under h0 hb] at h
theorem fence_row {c n r : Nat} (h0 : 0 < n) (hn : n ≤ 60) (hr : r < 5) (hb : bk c = false) (h10 : c ≠ 10) (h13 : c ≠ 13) (X : ByteArray) (W : World) (hX : bl X = rowS c n r ++ [10]) : Calls Tryd.prog 10 #[.string X, .int .i64 0] W fun e w' => e = .returned (mkV (if (c = 126 ∨ c = 96) ∧ 3 ≤ n then (⟨c, n, n, 0, 0, n⟩, true) else (noM, false))) ∧ Up W w' := by
  have h := pFence_any X 0 W (by rw [row_size10 hX]; omega)
  rwa [hX, row_rest10 h0 h10 h13, show (0 : Int).toNat = 0 from rfl, row_fence h0 hb] at h
set_option maxRecDepth 100000 in
set_option maxHeartbeats 4000000 in
theorem mdmarkrows_walk (w : World) (x y z : Int) (hx : (Lit.int .u8 x).wf = true) (hy : (Lit.int .u8 y).wf = true) (hz : (Lit.int .u8 z).wf = true) : Calls Tryd.prog 5 #[.int .u8 x, .int .u8 y, .int .u8 z] w fun e w' => e = .returned (.bool true) ∧ Up w w' := by
  have hx := (mk8 hx).1
  have hy := (mk8 hy).1
  have hz := (mk8 hz).1
  obtain ⟨x, rfl⟩ := Int.eq_ofNat_of_zero_le hx
  obtain ⟨y, rfl⟩ := Int.eq_ofNat_of_zero_le hy
  obtain ⟨z, rfl⟩ := Int.eq_ofNat_of_zero_le hz
  obtain ⟨j, hj⟩ : ∃ j, x % 6 = j := ⟨_, rfl⟩
  obtain ⟨q, hq⟩ : ∃ q, y % 60 = q := ⟨_, rfl⟩
  obtain ⟨r, hr⟩ : ∃ r, z % 5 = r := ⟨_, rfl⟩
  have tj : (x : Int).tmod 6 = (j : Nat) := by rw [← hj]; rfl
  have tq : (y : Int).tmod 60 = (q : Nat) := by rw [← hq]; rfl
  have tr : (z : Int).tmod 5 = (r : Nat) := by rw [← hr]; rfl
  have j6 : j < 6 := by omega
  have q6 : q < 60 := by omega
  have r5 : r < 5 := by omega
  obtain ⟨n, hn⟩ : ∃ n, 1 + q = n := ⟨_, rfl⟩
  have h0 : 0 < n := by omega
  have hn60 : n ≤ 60 := by omega
  obtain ⟨cb, hcb, hcn⟩ := chS_at j j6
  by_cases h3 : 3 ≤ n
  · match j, j6 with
    | 0, _ =>
      exact rows_a w x y z 0 q r 42 n cb tj tq tr (by omega) q6 r5 hcb hcn hn
        (fun X W hX => by have h := rule_row (c := 42) h0 hn60 r5 rfl (by decide) X W hX; rw [if_pos ⟨rfl, h3⟩] at h; exact h)
        (fun X W hX => by have h := under_row (c := 42) h0 hn60 r5 rfl (by decide) X W hX; rw [if_neg (by decide)] at h; exact h)
        (fun X W hX => by have h := fence_row (c := 42) h0 hn60 r5 rfl (by decide) (by decide) X W hX; rw [if_neg (fun k => absurd k.1 (by decide))] at h; exact h) (by omega) (by omega) (by omega) (by omega) h3
    | 1, _ =>
      exact rows_b w x y z 1 q r 45 n cb tj tq tr (by omega) q6 r5 hcb hcn hn
        (fun X W hX => by have h := rule_row (c := 45) h0 hn60 r5 rfl (by decide) X W hX; rw [if_pos ⟨rfl, h3⟩] at h; exact h)
        (fun X W hX => by have h := under_row (c := 45) h0 hn60 r5 rfl (by decide) X W hX; rw [if_pos (by decide)] at h; exact h)
        (fun X W hX => by have h := fence_row (c := 45) h0 hn60 r5 rfl (by decide) (by decide) X W hX; rw [if_neg (fun k => absurd k.1 (by decide))] at h; exact h) (by omega) rfl (by omega) (by omega) h3
    | 2, _ =>
      exact rows_a w x y z 2 q r 95 n cb tj tq tr (by omega) q6 r5 hcb hcn hn
        (fun X W hX => by have h := rule_row (c := 95) h0 hn60 r5 rfl (by decide) X W hX; rw [if_pos ⟨rfl, h3⟩] at h; exact h)
        (fun X W hX => by have h := under_row (c := 95) h0 hn60 r5 rfl (by decide) X W hX; rw [if_neg (by decide)] at h; exact h)
        (fun X W hX => by have h := fence_row (c := 95) h0 hn60 r5 rfl (by decide) (by decide) X W hX; rw [if_neg (fun k => absurd k.1 (by decide))] at h; exact h) (by omega) (by omega) (by omega) (by omega) h3
    | 3, _ =>
      exact rows_c w x y z 3 q r 61 n cb tj tq tr (by omega) q6 r5 hcb hcn hn
        (fun X W hX => by have h := rule_row (c := 61) h0 hn60 r5 rfl (by decide) X W hX; rw [if_neg (fun k => absurd k.1 (by decide))] at h; exact h)
        (fun X W hX => by have h := under_row (c := 61) h0 hn60 r5 rfl (by decide) X W hX; rw [if_pos (by decide)] at h; exact h)
        (fun X W hX => by have h := fence_row (c := 61) h0 hn60 r5 rfl (by decide) (by decide) X W hX; rw [if_neg (fun k => absurd k.1 (by decide))] at h; exact h) (by omega) (by omega) rfl (by omega) h3
    | 4, _ =>
      exact rows_e w x y z 4 q r 126 n cb tj tq tr (by omega) q6 r5 hcb hcn hn
        (fun X W hX => by have h := rule_row (c := 126) h0 hn60 r5 rfl (by decide) X W hX; rw [if_neg (fun k => absurd k.1 (by decide))] at h; exact h)
        (fun X W hX => by have h := under_row (c := 126) h0 hn60 r5 rfl (by decide) X W hX; rw [if_neg (by decide)] at h; exact h)
        (fun X W hX => by have h := fence_row (c := 126) h0 hn60 r5 rfl (by decide) (by decide) X W hX; rw [if_pos ⟨by decide, h3⟩] at h; exact h) (by omega) (by omega) (by omega) (by omega) h3
    | 5, _ =>
      exact rows_e w x y z 5 q r 96 n cb tj tq tr (by omega) q6 r5 hcb hcn hn
        (fun X W hX => by have h := rule_row (c := 96) h0 hn60 r5 rfl (by decide) X W hX; rw [if_neg (fun k => absurd k.1 (by decide))] at h; exact h)
        (fun X W hX => by have h := under_row (c := 96) h0 hn60 r5 rfl (by decide) X W hX; rw [if_neg (by decide)] at h; exact h)
        (fun X W hX => by have h := fence_row (c := 96) h0 hn60 r5 rfl (by decide) (by decide) X W hX; rw [if_pos ⟨by decide, h3⟩] at h; exact h) (by omega) (by omega) (by omega) (by omega) h3
  · match j, j6 with
    | 0, _ =>
      exact rows_g w x y z 0 q r 42 n cb tj tq tr (by omega) q6 r5 hcb hcn hn
        (fun X W hX => by have h := rule_row (c := 42) h0 hn60 r5 rfl (by decide) X W hX; rw [if_neg (fun k => h3 k.2)] at h; exact h)
        (fun X W hX => by have h := under_row (c := 42) h0 hn60 r5 rfl (by decide) X W hX; rw [if_neg (by decide)] at h; exact h)
        (fun X W hX => by have h := fence_row (c := 42) h0 hn60 r5 rfl (by decide) (by decide) X W hX; rw [if_neg (fun k => absurd k.1 (by decide))] at h; exact h) (by omega) (by omega) (by omega) (by omega) h3
    | 1, _ =>
      exact rows_f w x y z 1 q r 45 n cb tj tq tr (by omega) q6 r5 hcb hcn hn
        (fun X W hX => by have h := rule_row (c := 45) h0 hn60 r5 rfl (by decide) X W hX; rw [if_neg (fun k => h3 k.2)] at h; exact h)
        (fun X W hX => by have h := under_row (c := 45) h0 hn60 r5 rfl (by decide) X W hX; rw [if_pos (by decide)] at h; exact h)
        (fun X W hX => by have h := fence_row (c := 45) h0 hn60 r5 rfl (by decide) (by decide) X W hX; rw [if_neg (fun k => absurd k.1 (by decide))] at h; exact h) (by omega) rfl (by omega) (by omega) h3
    | 2, _ =>
      exact rows_g w x y z 2 q r 95 n cb tj tq tr (by omega) q6 r5 hcb hcn hn
        (fun X W hX => by have h := rule_row (c := 95) h0 hn60 r5 rfl (by decide) X W hX; rw [if_neg (fun k => h3 k.2)] at h; exact h)
        (fun X W hX => by have h := under_row (c := 95) h0 hn60 r5 rfl (by decide) X W hX; rw [if_neg (by decide)] at h; exact h)
        (fun X W hX => by have h := fence_row (c := 95) h0 hn60 r5 rfl (by decide) (by decide) X W hX; rw [if_neg (fun k => absurd k.1 (by decide))] at h; exact h) (by omega) (by omega) (by omega) (by omega) h3
    | 3, _ =>
      exact rows_d w x y z 3 q r 61 n cb tj tq tr (by omega) q6 r5 hcb hcn hn
        (fun X W hX => by have h := rule_row (c := 61) h0 hn60 r5 rfl (by decide) X W hX; rw [if_neg (fun k => absurd k.1 (by decide))] at h; exact h)
        (fun X W hX => by have h := under_row (c := 61) h0 hn60 r5 rfl (by decide) X W hX; rw [if_pos (by decide)] at h; exact h)
        (fun X W hX => by have h := fence_row (c := 61) h0 hn60 r5 rfl (by decide) (by decide) X W hX; rw [if_neg (fun k => absurd k.1 (by decide))] at h; exact h) (by omega) (by omega) rfl (by omega) h3
    | 4, _ =>
      exact rows_h w x y z 4 q r 126 n cb tj tq tr (by omega) q6 r5 hcb hcn hn
        (fun X W hX => by have h := rule_row (c := 126) h0 hn60 r5 rfl (by decide) X W hX; rw [if_neg (fun k => absurd k.1 (by decide))] at h; exact h)
        (fun X W hX => by have h := under_row (c := 126) h0 hn60 r5 rfl (by decide) X W hX; rw [if_neg (by decide)] at h; exact h)
        (fun X W hX => by have h := fence_row (c := 126) h0 hn60 r5 rfl (by decide) (by decide) X W hX; rw [if_neg (fun k => h3 k.2)] at h; exact h) (by omega) (by omega) (by omega) (by omega) h3
    | 5, _ =>
      exact rows_h w x y z 5 q r 96 n cb tj tq tr (by omega) q6 r5 hcb hcn hn
        (fun X W hX => by have h := rule_row (c := 96) h0 hn60 r5 rfl (by decide) X W hX; rw [if_neg (fun k => absurd k.1 (by decide))] at h; exact h)
        (fun X W hX => by have h := under_row (c := 96) h0 hn60 r5 rfl (by decide) X W hX; rw [if_neg (by decide)] at h; exact h)
        (fun X W hX => by have h := fence_row (c := 96) h0 hn60 r5 rfl (by decide) (by decide) X W hX; rw [if_neg (fun k => h3 k.2)] at h; exact h) (by omega) (by omega) (by omega) (by omega) h3
end Go.Proofs.YtopdbilkpkgccaaDoor
