/- MdmarkRows, walked for each class of rows. -/
import Derived.Test.YtopdbilkpkgccaaDoorMkRowB
namespace Go.Proofs.YtopdbilkpkgccaaDoor
open Go.RowKit
set_option linter.unusedSimpArgs false

set_option linter.unusedVariables false in
set_option maxRecDepth 100000 in
set_option maxHeartbeats 8000000 in
theorem rows_a (w : World) (x y z : Int) (j q r c n : Nat) (cb : UInt8) (hj : x.tmod 6 = (j : Nat)) (hq : y.tmod 60 = (q : Nat)) (hr : z.tmod 5 = (r : Nat)) (hj6 : j < 6) (hq60 : q < 60) (hr5 : r < 5) (hcb : chS.extract j (j + 1) = ⟨#[cb]⟩) (hcn : cb.toNat = c) (hn : 1 + q = n)
    (HR0 : ∀ (X : ByteArray) (W : World), bl X = rowS c n r → Calls Tryd.prog 7 #[.string X, .int .i64 0] W fun e w' => e = .returned (.tuple #[.agg #[.int .u8 (c : Nat), .int .i64 (n : Nat), .int .i64 0, .int .i64 0, .int .i64 0, .int .i64 (n : Nat)], .bool true]) ∧ Up W w')
    (HU0 : ∀ (X : ByteArray) (W : World), bl X = rowS c n r → Calls Tryd.prog 9 #[.string X, .int .i64 0] W fun e w' => e = .returned (.tuple #[.agg #[.int .u8 0, .int .i64 0, .int .i64 0, .int .i64 0, .int .i64 0, .int .i64 0], .bool false]) ∧ Up W w')
    (HF0 : ∀ (X : ByteArray) (W : World), bl X = rowS c n r ++ [10] → Calls Tryd.prog 10 #[.string X, .int .i64 0] W fun e w' => e = .returned (.tuple #[.agg #[.int .u8 0, .int .i64 0, .int .i64 0, .int .i64 0, .int .i64 0, .int .i64 0], .bool false]) ∧ Up W w') (q1 : j < 3) (q2 : j ≠ 1) (q3 : j ≠ 3) (q4 : ¬ 3 < j) (q5 : 3 ≤ n) :
    Calls Tryd.prog 5 #[.int .u8 x, .int .u8 y, .int .u8 z] w fun e w' => e = .returned (.bool true) ∧ Up w w' := by
  have q1' : (j : Int) < 3 := by omega
  have q2' : ((j : Int) == 1) = false := beq_eq_false_iff_ne.2 (by omega)
  have q3' : ((j : Int) == 3) = false := beq_eq_false_iff_ne.2 (by omega)
  have q4' : ¬ ((3 : Int) < (j : Int)) := by omega
  have q5' : (3 : Int) ≤ (n : Int) := by omega
  have hcv := conv96 w
  have HRd := Lib.hid (fun W => reads_any W)
  have HRu := Lib.hid HR0
  have HUn := Lib.hid HU0
  have HFe := Lib.hid HF0
  have hsl : (({ data := #[42, 45, 95, 61, 126] } : ByteArray) ++ { data := #[96] }).extract j (j + 1) = ⟨#[cb]⟩ := hcb
  have hs0 : ((({ data := #[42, 45, 95, 61, 126] } : ByteArray) ++ { data := #[96] }).size : Int) = 6 := rfl
  have hs1 : (({ data := #[42, 45, 95, 61, 126] } : ByteArray) ++ { data := #[96] }).size = 6 := rfl
  have j0 : (0 : Int) ≤ (j : Int) := by omega
  have j1 : (j : Int) ≤ (j : Int) + 1 := by omega
  have j2 : (j : Int) + 1 ≤ 6 := by omega
  have e1 : ((j : Int) + 1) % 256 = (j : Int) + 1 := by omega
  have HE4 := Lib.hid (show IntKind.i64.wrap (r : Int) = (r : Nat) from IntWalk.i64_in _ (by omega))
  have HQ := Lib.hid (And.intro hj6 (And.intro hq60 (And.intro hr5 (And.intro hcn hn))))
  have e2 : IntKind.i64.wrap (q : Int) = (q : Nat) := IntWalk.i64_in _ (by omega)
  have e3 : IntKind.i64.wrap (1 + (q : Int)) = ((1 + q : Nat) : Int) := (IntWalk.i64_in _ (by omega)).trans (by omega)
  clear q1 q2 q3 q4 q5
  clear hj6 hq60 hr5 hcn hcb HR0 HU0 HF0 hn
  go_enter Tryd.func5, Tryd.ntmps5
  go_upto_region 4 with fail
  obtain ⟨a6, a60, a5, hcn, hn⟩ := HQ.out
  have hn2 : (1 + (q : Int)) = (n : Int) := by omega
  rw [hn2]
  obtain ⟨W1, hW1⟩ : ∃ W1, w.alloc (.cells #[.int .u8 96] 5) = W1 := ⟨_, rfl⟩
  have HU1 := Lib.hid (show Up w W1 by rw [← hW1]; exact Up.alloc _ _)
  rw [hW1]
  generalize (({ data := #[42, 45, 95, 61, 126] } : ByteArray) ++ { data := #[96] }) = T0 at *
  obtain ⟨S, hS⟩ : ∃ S : ByteArray, ⟨#[cb]⟩ = S := ⟨_, rfl⟩
  have hS1 : S.size = 1 := by rw [← hS]; rfl
  have hSb : bl S = [c] := by rw [← hS, bl_one, hcn]
  have p1 : (0 : Int) < S.size := by omega
  have hS0 : S[0].toNat = c := by
    have h1 := bl_at (s := S) (i := 0) (by omega)
    rw [hSb] at h1
    rw [bt_eq (by omega)]
    exact (Option.some.inj h1).symm
  rw [hS]
  have HSb := Lib.hid hSb
  have hn60 : n ≤ 60 := by omega
  have HN := Lib.hid (And.intro hn60 (And.intro a5 (show 0 < n by omega)))
  clear hcv hsl hs0 hs1 j0 j1 j2 e1 e2 e3 hW1 hn2 a6 a60 a5 hcn hn hS hSb hn60 hq HQ
  go_wp2
  go_loopg [10, 11] n (fun g lv iv wr => W1 = wr ∧ ∃ (X : ByteArray) (i : Nat), g = n - i ∧ lv = .string X ∧ iv = .int .i64 (i : Nat) ∧ Hid (i ≤ n) ∧ Hid (bl X = List.replicate i c))
  case atStart => exact ⟨rfl, ⟨#[]⟩, 0, rfl, rfl, rfl, Lib.hid (Nat.zero_le _), Lib.hid rfl⟩
  case round =>
    obtain ⟨rfl, X, i, hg, rfl, rfl, HI, HX⟩ := hrel
    have HG := Lib.hid hg
    clear hg
    have hXs : X.size = i := by rw [← bl_len, HX.out, List.length_replicate]
    by_cases hlt : i < n
    · have k1 : (i : Int) < (n : Int) := by omega
      have b1 : ¬ 9223372036854775807 < X.size + S.size := by have := HN.out; omega
      have HX2 := Lib.hid (bl_snoc_rep HX.out HSb.out)
      have HI2 := Lib.hid (show i + 1 ≤ n from hlt)
      have HE := Lib.hid (show IntKind.i64.wrap ((i : Int) + 1) = (i : Int) + 1 from IntWalk.i64_in _ (by have := HN.out; omega))
      obtain ⟨zz, hzz⟩ : ∃ zz, X.size = zz := ⟨_, rfl⟩
      clear hXs hlt
      have e1 := HE.out
      go_wp2
      go_roundg (n - (i + 1))
      case measure => rw [HG.out]; have := HI2.out; omega
      case rel => exact ⟨rfl, X ++ S, i + 1, rfl, rfl, by go_num, HI2, HX2⟩
    · have hin : i = n := by have := HI.out; omega
      have f2' : decide ((i : Int) < (n : Int)) = false := decide_eq_false (by omega)
      have f3' : decide (i < n) = false := decide_eq_false hlt
      have HX0 := Lib.hid (show bl X = rowS c n 0 by rw [HX.out, hin]; unfold rowS; simp)
      clear hXs hin hlt
      go_wp2
      go_loopg [10, 12] r (fun g lv iv wr => W1 = wr ∧ ∃ (X : ByteArray) (i : Nat), g = r - i ∧ lv = .string X ∧ iv = .int .i64 (i : Nat) ∧ Hid (i ≤ r) ∧ Hid (bl X = rowS c n i))
      case atStart => exact ⟨rfl, X, 0, rfl, rfl, rfl, Lib.hid (Nat.zero_le _), HX0⟩
      case round =>
        obtain ⟨rfl, X, i, hg, rfl, rfl, HI, HX⟩ := hrel
        have HG := Lib.hid hg
        clear hg
        have hXs : X.size = n + i := by rw [← bl_len, HX.out]; unfold rowS; simp
        by_cases hlt : i < r
        · have k1 : (i : Int) < (r : Int) := by omega
          have b1 : ¬ 9223372036854775807 < X.size + 1 := by have := HN.out; omega
          have HX2 := Lib.hid (bl_snoc_row HX.out)
          have HI2 := Lib.hid (show i + 1 ≤ r from hlt)
          have HE := Lib.hid (show IntKind.i64.wrap ((i : Int) + 1) = (i : Int) + 1 from IntWalk.i64_in _ (by have := HN.out; omega))
          clear hXs hlt
          have e1 := HE.out
          have e4 := HE4.out
          go_wp2
          go_roundg (r - (i + 1))
          case measure => rw [HG.out]; have := HI2.out; omega
          case rel => exact ⟨rfl, X ++ ⟨#[32]⟩, i + 1, rfl, rfl, by go_num, HI2, HX2⟩
        · have hin : i = r := by have := HI.out; omega
          have g2' : decide ((i : Int) < (r : Int)) = false := decide_eq_false (by omega)
          have g3' : decide (i < r) = false := decide_eq_false hlt
          have b1 : ¬ 9223372036854775807 < X.size + 1 := by have := HN.out; omega
          have HXr := Lib.hid (show bl X = rowS c n r by rw [HX.out, hin])
          have HX10 := Lib.hid (show bl (X ++ ⟨#[10]⟩) = rowS c n r ++ [10] by rw [bl_append, HXr.out]; rfl)
          clear hXs hin hlt
          have e4 := HE4.out
          go_upto_region 18 with (first
            | (go_at_call 7; ((with_reducible refine (HRu.out _ _ HXr.out).mono ?_); rintro e w1 ⟨rfl, h1⟩; have HUa := Lib.hid ((HU1.out.trans h1).trans (Up.alloc w1 (.cells #[.int .u8 (c : Nat), .int .i64 (n : Nat), .int .i64 0, .int .i64 0, .int .i64 0, .int .i64 (n : Nat)] 23))); have HA1 := Lib.hid (six_new w1 23 (.int .u8 (c : Nat)) (.int .i64 (n : Nat)) (.int .i64 0) (.int .i64 0) (.int .i64 0) (.int .i64 (n : Nat))); clear h1))
            | (go_at_call 9; ((with_reducible refine (HUn.out _ _ HXr.out).mono ?_); rintro e w2 ⟨rfl, h2⟩; have HA2 := Lib.hid ((HA1.out.up h2).up (Up.alloc w2 (.cells #[.int .u8 0, .int .i64 0, .int .i64 0, .int .i64 0, .int .i64 0, .int .i64 0] 23))); have HUb := Lib.hid ((HUa.out.trans h2).trans (Up.alloc w2 (.cells #[.int .u8 0, .int .i64 0, .int .i64 0, .int .i64 0, .int .i64 0, .int .i64 0] 23))); have HB2 := Lib.hid (six_new w2 23 (.int .u8 0) (.int .i64 0) (.int .i64 0) (.int .i64 0) (.int .i64 0) (.int .i64 0)); clear h2))
            | (go_at_call 10; ((with_reducible refine (HFe.out _ _ HX10.out).mono ?_); rintro e w3 ⟨rfl, h3⟩; have HA3 := Lib.hid ((HA2.out.up h3).up (Up.alloc w3 (.cells #[.int .u8 0, .int .i64 0, .int .i64 0, .int .i64 0, .int .i64 0, .int .i64 0] 23))); have HB3 := Lib.hid ((HB2.out.up h3).up (Up.alloc w3 (.cells #[.int .u8 0, .int .i64 0, .int .i64 0, .int .i64 0, .int .i64 0, .int .i64 0] 23))); have HUc := Lib.hid ((HUb.out.trans h3).trans (Up.alloc w3 (.cells #[.int .u8 0, .int .i64 0, .int .i64 0, .int .i64 0, .int .i64 0, .int .i64 0] 23))); have HC3 := Lib.hid (six_new w3 23 (.int .u8 0) (.int .i64 0) (.int .i64 0) (.int .i64 0) (.int .i64 0) (.int .i64 0)); clear h3)))
          obtain ⟨W5, hW5⟩ : ∃ W5, w3.alloc (.cells #[.int .u8 0, .int .i64 0, .int .i64 0, .int .i64 0, .int .i64 0, .int .i64 0] 23) = W5 := ⟨_, rfl⟩
          rw [hW5] at HA3 HB3 HC3 HUc ⊢
          clear hW5 b1 e4 g2' g3'
          refine wp_region_held_drew (S := fun w' : World => Six w' w1.heap.size (.int .u8 (c : Nat)) (.int .i64 (n : Nat)) (.int .i64 0) (.int .i64 0) (.int .i64 0) (.int .i64 (n : Nat)) ∧ Six w' w2.heap.size (.int .u8 0) (.int .i64 0) (.int .i64 0) (.int .i64 0) (.int .i64 0) (.int .i64 0) ∧ Six w' w3.heap.size (.int .u8 0) (.int .i64 0) (.int .i64 0) (.int .i64 0) (.int .i64 0) (.int .i64 0)) (by kernel_rfl) ⟨HA3.out.up (Up.drew _), HB3.out.up (Up.drew _), HC3.out.up (Up.drew _)⟩ (fun hSw => ?_)
          first
            | refine wpAnyH_take (i := 0) rfl (by kernel_rfl) (by kernel_rfl) (by kernel_rfl) (fun _ _ _ h => h) (Or.inr ⟨by rfl, rfl⟩) hSw ?_
            | (refine wpAnyH_take (i := 0) (v := ?v0) rfl (by kernel_rfl) (by kernel_rfl) (by kernel_rfl) (fun _ _ _ h => h) (Or.inl ⟨by rfl, ?hy0⟩) hSw ?rest0
               case hy0 =>
                 intro w hw
                 obtain ⟨⟨a0, a1, a2, a3, a4, a5⟩, ⟨b0, b1', b2, b3, b4, b5⟩, ⟨c0, c1, c2, c3, c4, c5⟩⟩ := hw
                 go_simp
                 try with_reducible rfl)
          try simp only [Act.put, List.getElem_toArray, List.getElem_cons_zero, List.getElem_cons_succ, List.setIfInBounds_toArray, List.set_cons_zero, List.set_cons_succ]
          first
            | refine wpAnyH_take (i := 1) rfl (by kernel_rfl) (by kernel_rfl) (by kernel_rfl) (fun _ _ _ h => h) (Or.inr ⟨by rfl, rfl⟩) hSw ?_
            | (refine wpAnyH_take (i := 1) (v := ?v1) rfl (by kernel_rfl) (by kernel_rfl) (by kernel_rfl) (fun _ _ _ h => h) (Or.inl ⟨by rfl, ?hy1⟩) hSw ?rest1
               case hy1 =>
                 intro w hw
                 obtain ⟨⟨a0, a1, a2, a3, a4, a5⟩, ⟨b0, b1', b2, b3, b4, b5⟩, ⟨c0, c1, c2, c3, c4, c5⟩⟩ := hw
                 go_simp
                 try with_reducible rfl)
          try simp only [Act.put, List.getElem_toArray, List.getElem_cons_zero, List.getElem_cons_succ, List.setIfInBounds_toArray, List.set_cons_zero, List.set_cons_succ]
          first
            | refine wpAnyH_take (i := 2) rfl (by kernel_rfl) (by kernel_rfl) (by kernel_rfl) (fun _ _ _ h => h) (Or.inr ⟨by rfl, rfl⟩) hSw ?_
            | (refine wpAnyH_take (i := 2) (v := ?v2) rfl (by kernel_rfl) (by kernel_rfl) (by kernel_rfl) (fun _ _ _ h => h) (Or.inl ⟨by rfl, ?hy2⟩) hSw ?rest2
               case hy2 =>
                 intro w hw
                 obtain ⟨⟨a0, a1, a2, a3, a4, a5⟩, ⟨b0, b1', b2, b3, b4, b5⟩, ⟨c0, c1, c2, c3, c4, c5⟩⟩ := hw
                 go_simp
                 try with_reducible rfl)
          try simp only [Act.put, List.getElem_toArray, List.getElem_cons_zero, List.getElem_cons_succ, List.setIfInBounds_toArray, List.set_cons_zero, List.set_cons_succ]
          first
            | refine wpAnyH_take (i := 3) rfl (by kernel_rfl) (by kernel_rfl) (by kernel_rfl) (fun _ _ _ h => h) (Or.inr ⟨by rfl, rfl⟩) hSw ?_
            | (refine wpAnyH_take (i := 3) (v := ?v3) rfl (by kernel_rfl) (by kernel_rfl) (by kernel_rfl) (fun _ _ _ h => h) (Or.inl ⟨by rfl, ?hy3⟩) hSw ?rest3
               case hy3 =>
                 intro w hw
                 obtain ⟨⟨a0, a1, a2, a3, a4, a5⟩, ⟨b0, b1', b2, b3, b4, b5⟩, ⟨c0, c1, c2, c3, c4, c5⟩⟩ := hw
                 go_simp
                 try with_reducible rfl)
          try simp only [Act.put, List.getElem_toArray, List.getElem_cons_zero, List.getElem_cons_succ, List.setIfInBounds_toArray, List.set_cons_zero, List.set_cons_succ]
          first
            | refine wpAnyH_take (i := 4) rfl (by kernel_rfl) (by kernel_rfl) (by kernel_rfl) (fun _ _ _ h => h) (Or.inr ⟨by rfl, rfl⟩) hSw ?_
            | (refine wpAnyH_take (i := 4) (v := ?v4) rfl (by kernel_rfl) (by kernel_rfl) (by kernel_rfl) (fun _ _ _ h => h) (Or.inl ⟨by rfl, ?hy4⟩) hSw ?rest4
               case hy4 =>
                 intro w hw
                 obtain ⟨⟨a0, a1, a2, a3, a4, a5⟩, ⟨b0, b1', b2, b3, b4, b5⟩, ⟨c0, c1, c2, c3, c4, c5⟩⟩ := hw
                 go_simp
                 try with_reducible rfl)
          try simp only [Act.put, List.getElem_toArray, List.getElem_cons_zero, List.getElem_cons_succ, List.setIfInBounds_toArray, List.set_cons_zero, List.set_cons_succ]
          first
            | refine wpAnyH_take (i := 5) rfl (by kernel_rfl) (by kernel_rfl) (by kernel_rfl) (fun _ _ _ h => h) (Or.inr ⟨by rfl, rfl⟩) hSw ?_
            | (refine wpAnyH_take (i := 5) (v := ?v5) rfl (by kernel_rfl) (by kernel_rfl) (by kernel_rfl) (fun _ _ _ h => h) (Or.inl ⟨by rfl, ?hy5⟩) hSw ?rest5
               case hy5 =>
                 intro w hw
                 obtain ⟨⟨a0, a1, a2, a3, a4, a5⟩, ⟨b0, b1', b2, b3, b4, b5⟩, ⟨c0, c1, c2, c3, c4, c5⟩⟩ := hw
                 go_simp
                 try with_reducible rfl)
          try simp only [Act.put, List.getElem_toArray, List.getElem_cons_zero, List.getElem_cons_succ, List.setIfInBounds_toArray, List.set_cons_zero, List.set_cons_succ]
          first
            | refine wpAnyH_take (i := 6) rfl (by kernel_rfl) (by kernel_rfl) (by kernel_rfl) (fun _ _ _ h => h) (Or.inr ⟨by rfl, rfl⟩) hSw ?_
            | (refine wpAnyH_take (i := 6) (v := ?v6) rfl (by kernel_rfl) (by kernel_rfl) (by kernel_rfl) (fun _ _ _ h => h) (Or.inl ⟨by rfl, ?hy6⟩) hSw ?rest6
               case hy6 =>
                 intro w hw
                 obtain ⟨⟨a0, a1, a2, a3, a4, a5⟩, ⟨b0, b1', b2, b3, b4, b5⟩, ⟨c0, c1, c2, c3, c4, c5⟩⟩ := hw
                 go_simp
                 try with_reducible rfl)
          try simp only [Act.put, List.getElem_toArray, List.getElem_cons_zero, List.getElem_cons_succ, List.setIfInBounds_toArray, List.set_cons_zero, List.set_cons_succ]
          first
            | refine wpAnyH_take (i := 7) rfl (by kernel_rfl) (by kernel_rfl) (by kernel_rfl) (fun _ _ _ h => h) (Or.inr ⟨by rfl, rfl⟩) hSw ?_
            | (refine wpAnyH_take (i := 7) (v := ?v7) rfl (by kernel_rfl) (by kernel_rfl) (by kernel_rfl) (fun _ _ _ h => h) (Or.inl ⟨by rfl, ?hy7⟩) hSw ?rest7
               case hy7 =>
                 intro w hw
                 obtain ⟨⟨a0, a1, a2, a3, a4, a5⟩, ⟨b0, b1', b2, b3, b4, b5⟩, ⟨c0, c1, c2, c3, c4, c5⟩⟩ := hw
                 go_simp
                 try with_reducible rfl)
          try simp only [Act.put, List.getElem_toArray, List.getElem_cons_zero, List.getElem_cons_succ, List.setIfInBounds_toArray, List.set_cons_zero, List.set_cons_succ]
          first
            | refine wpAnyH_take (i := 8) rfl (by kernel_rfl) (by kernel_rfl) (by kernel_rfl) (fun _ _ _ h => h) (Or.inr ⟨by rfl, rfl⟩) hSw ?_
            | (refine wpAnyH_take (i := 8) (v := ?v8) rfl (by kernel_rfl) (by kernel_rfl) (by kernel_rfl) (fun _ _ _ h => h) (Or.inl ⟨by rfl, ?hy8⟩) hSw ?rest8
               case hy8 =>
                 intro w hw
                 obtain ⟨⟨a0, a1, a2, a3, a4, a5⟩, ⟨b0, b1', b2, b3, b4, b5⟩, ⟨c0, c1, c2, c3, c4, c5⟩⟩ := hw
                 go_simp
                 try with_reducible rfl)
          try simp only [Act.put, List.getElem_toArray, List.getElem_cons_zero, List.getElem_cons_succ, List.setIfInBounds_toArray, List.set_cons_zero, List.set_cons_succ]
          first
            | refine wpAnyH_take (i := 9) rfl (by kernel_rfl) (by kernel_rfl) (by kernel_rfl) (fun _ _ _ h => h) (Or.inr ⟨by rfl, rfl⟩) hSw ?_
            | (refine wpAnyH_take (i := 9) (v := ?v9) rfl (by kernel_rfl) (by kernel_rfl) (by kernel_rfl) (fun _ _ _ h => h) (Or.inl ⟨by rfl, ?hy9⟩) hSw ?rest9
               case hy9 =>
                 intro w hw
                 obtain ⟨⟨a0, a1, a2, a3, a4, a5⟩, ⟨b0, b1', b2, b3, b4, b5⟩, ⟨c0, c1, c2, c3, c4, c5⟩⟩ := hw
                 go_simp
                 try with_reducible rfl)
          try simp only [Act.put, List.getElem_toArray, List.getElem_cons_zero, List.getElem_cons_succ, List.setIfInBounds_toArray, List.set_cons_zero, List.set_cons_succ]
          first
            | refine wpAnyH_take (i := 10) rfl (by kernel_rfl) (by kernel_rfl) (by kernel_rfl) (fun _ _ _ h => h) (Or.inr ⟨by rfl, rfl⟩) hSw ?_
            | (refine wpAnyH_take (i := 10) (v := ?v10) rfl (by kernel_rfl) (by kernel_rfl) (by kernel_rfl) (fun _ _ _ h => h) (Or.inl ⟨by rfl, ?hy10⟩) hSw ?rest10
               case hy10 =>
                 intro w hw
                 obtain ⟨⟨a0, a1, a2, a3, a4, a5⟩, ⟨b0, b1', b2, b3, b4, b5⟩, ⟨c0, c1, c2, c3, c4, c5⟩⟩ := hw
                 go_simp
                 try with_reducible rfl)
          try simp only [Act.put, List.getElem_toArray, List.getElem_cons_zero, List.getElem_cons_succ, List.setIfInBounds_toArray, List.set_cons_zero, List.set_cons_succ]
          first
            | refine wpAnyH_take (i := 11) rfl (by kernel_rfl) (by kernel_rfl) (by kernel_rfl) (fun _ _ _ h => h) (Or.inr ⟨by rfl, rfl⟩) hSw ?_
            | (refine wpAnyH_take (i := 11) (v := ?v11) rfl (by kernel_rfl) (by kernel_rfl) (by kernel_rfl) (fun _ _ _ h => h) (Or.inl ⟨by rfl, ?hy11⟩) hSw ?rest11
               case hy11 =>
                 intro w hw
                 obtain ⟨⟨a0, a1, a2, a3, a4, a5⟩, ⟨b0, b1', b2, b3, b4, b5⟩, ⟨c0, c1, c2, c3, c4, c5⟩⟩ := hw
                 go_simp
                 try with_reducible rfl)
          try simp only [Act.put, List.getElem_toArray, List.getElem_cons_zero, List.getElem_cons_succ, List.setIfInBounds_toArray, List.set_cons_zero, List.set_cons_succ]
          first
            | refine wpAnyH_take (i := 12) rfl (by kernel_rfl) (by kernel_rfl) (by kernel_rfl) (fun _ _ _ h => h) (Or.inr ⟨by rfl, rfl⟩) hSw ?_
            | (refine wpAnyH_take (i := 12) (v := ?v12) rfl (by kernel_rfl) (by kernel_rfl) (by kernel_rfl) (fun _ _ _ h => h) (Or.inl ⟨by rfl, ?hy12⟩) hSw ?rest12
               case hy12 =>
                 intro w hw
                 obtain ⟨⟨a0, a1, a2, a3, a4, a5⟩, ⟨b0, b1', b2, b3, b4, b5⟩, ⟨c0, c1, c2, c3, c4, c5⟩⟩ := hw
                 go_simp
                 try with_reducible rfl)
          try simp only [Act.put, List.getElem_toArray, List.getElem_cons_zero, List.getElem_cons_succ, List.setIfInBounds_toArray, List.set_cons_zero, List.set_cons_succ]
          first
            | refine wpAnyH_take (i := 13) rfl (by kernel_rfl) (by kernel_rfl) (by kernel_rfl) (fun _ _ _ h => h) (Or.inr ⟨by rfl, rfl⟩) hSw ?_
            | (refine wpAnyH_take (i := 13) (v := ?v13) rfl (by kernel_rfl) (by kernel_rfl) (by kernel_rfl) (fun _ _ _ h => h) (Or.inl ⟨by rfl, ?hy13⟩) hSw ?rest13
               case hy13 =>
                 intro w hw
                 obtain ⟨⟨a0, a1, a2, a3, a4, a5⟩, ⟨b0, b1', b2, b3, b4, b5⟩, ⟨c0, c1, c2, c3, c4, c5⟩⟩ := hw
                 go_simp
                 try with_reducible rfl)
          try simp only [Act.put, List.getElem_toArray, List.getElem_cons_zero, List.getElem_cons_succ, List.setIfInBounds_toArray, List.set_cons_zero, List.set_cons_succ]
          first
            | refine wpAnyH_take (i := 14) rfl (by kernel_rfl) (by kernel_rfl) (by kernel_rfl) (fun _ _ _ h => h) (Or.inr ⟨by rfl, rfl⟩) hSw ?_
            | (refine wpAnyH_take (i := 14) (v := ?v14) rfl (by kernel_rfl) (by kernel_rfl) (by kernel_rfl) (fun _ _ _ h => h) (Or.inl ⟨by rfl, ?hy14⟩) hSw ?rest14
               case hy14 =>
                 intro w hw
                 obtain ⟨⟨a0, a1, a2, a3, a4, a5⟩, ⟨b0, b1', b2, b3, b4, b5⟩, ⟨c0, c1, c2, c3, c4, c5⟩⟩ := hw
                 go_simp
                 try with_reducible rfl)
          try simp only [Act.put, List.getElem_toArray, List.getElem_cons_zero, List.getElem_cons_succ, List.setIfInBounds_toArray, List.set_cons_zero, List.set_cons_succ]
          first
            | refine wpAnyH_take (i := 15) rfl (by kernel_rfl) (by kernel_rfl) (by kernel_rfl) (fun _ _ _ h => h) (Or.inr ⟨by rfl, rfl⟩) hSw ?_
            | (refine wpAnyH_take (i := 15) (v := ?v15) rfl (by kernel_rfl) (by kernel_rfl) (by kernel_rfl) (fun _ _ _ h => h) (Or.inl ⟨by rfl, ?hy15⟩) hSw ?rest15
               case hy15 =>
                 intro w hw
                 obtain ⟨⟨a0, a1, a2, a3, a4, a5⟩, ⟨b0, b1', b2, b3, b4, b5⟩, ⟨c0, c1, c2, c3, c4, c5⟩⟩ := hw
                 go_simp
                 try with_reducible rfl)
          try simp only [Act.put, List.getElem_toArray, List.getElem_cons_zero, List.getElem_cons_succ, List.setIfInBounds_toArray, List.set_cons_zero, List.set_cons_succ]
          first
            | refine wpAnyH_take (i := 16) rfl (by kernel_rfl) (by kernel_rfl) (by kernel_rfl) (fun _ _ _ h => h) (Or.inr ⟨by rfl, rfl⟩) hSw ?_
            | (refine wpAnyH_take (i := 16) (v := ?v16) rfl (by kernel_rfl) (by kernel_rfl) (by kernel_rfl) (fun _ _ _ h => h) (Or.inl ⟨by rfl, ?hy16⟩) hSw ?rest16
               case hy16 =>
                 intro w hw
                 obtain ⟨⟨a0, a1, a2, a3, a4, a5⟩, ⟨b0, b1', b2, b3, b4, b5⟩, ⟨c0, c1, c2, c3, c4, c5⟩⟩ := hw
                 go_simp
                 try with_reducible rfl)
          try simp only [Act.put, List.getElem_toArray, List.getElem_cons_zero, List.getElem_cons_succ, List.setIfInBounds_toArray, List.set_cons_zero, List.set_cons_succ]
          first
            | refine wpAnyH_take (i := 17) rfl (by kernel_rfl) (by kernel_rfl) (by kernel_rfl) (fun _ _ _ h => h) (Or.inr ⟨by rfl, rfl⟩) hSw ?_
            | (refine wpAnyH_take (i := 17) (v := ?v17) rfl (by kernel_rfl) (by kernel_rfl) (by kernel_rfl) (fun _ _ _ h => h) (Or.inl ⟨by rfl, ?hy17⟩) hSw ?rest17
               case hy17 =>
                 intro w hw
                 obtain ⟨⟨a0, a1, a2, a3, a4, a5⟩, ⟨b0, b1', b2, b3, b4, b5⟩, ⟨c0, c1, c2, c3, c4, c5⟩⟩ := hw
                 go_simp
                 try with_reducible rfl)
          try simp only [Act.put, List.getElem_toArray, List.getElem_cons_zero, List.getElem_cons_succ, List.setIfInBounds_toArray, List.set_cons_zero, List.set_cons_succ]
          first
            | refine wpAnyH_take (i := 18) rfl (by kernel_rfl) (by kernel_rfl) (by kernel_rfl) (fun _ _ _ h => h) (Or.inr ⟨by rfl, rfl⟩) hSw ?_
            | (refine wpAnyH_take (i := 18) (v := ?v18) rfl (by kernel_rfl) (by kernel_rfl) (by kernel_rfl) (fun _ _ _ h => h) (Or.inl ⟨by rfl, ?hy18⟩) hSw ?rest18
               case hy18 =>
                 intro w hw
                 obtain ⟨⟨a0, a1, a2, a3, a4, a5⟩, ⟨b0, b1', b2, b3, b4, b5⟩, ⟨c0, c1, c2, c3, c4, c5⟩⟩ := hw
                 go_simp
                 try with_reducible rfl)
          try simp only [Act.put, List.getElem_toArray, List.getElem_cons_zero, List.getElem_cons_succ, List.setIfInBounds_toArray, List.set_cons_zero, List.set_cons_succ]
          first
            | refine wpAnyH_take (i := 19) rfl (by kernel_rfl) (by kernel_rfl) (by kernel_rfl) (fun _ _ _ h => h) (Or.inr ⟨by rfl, rfl⟩) hSw ?_
            | (refine wpAnyH_take (i := 19) (v := ?v19) rfl (by kernel_rfl) (by kernel_rfl) (by kernel_rfl) (fun _ _ _ h => h) (Or.inl ⟨by rfl, ?hy19⟩) hSw ?rest19
               case hy19 =>
                 intro w hw
                 obtain ⟨⟨a0, a1, a2, a3, a4, a5⟩, ⟨b0, b1', b2, b3, b4, b5⟩, ⟨c0, c1, c2, c3, c4, c5⟩⟩ := hw
                 go_simp
                 try with_reducible rfl)
          try simp only [Act.put, List.getElem_toArray, List.getElem_cons_zero, List.getElem_cons_succ, List.setIfInBounds_toArray, List.set_cons_zero, List.set_cons_succ]
          first
            | refine wpAnyH_take (i := 20) rfl (by kernel_rfl) (by kernel_rfl) (by kernel_rfl) (fun _ _ _ h => h) (Or.inr ⟨by rfl, rfl⟩) hSw ?_
            | (refine wpAnyH_take (i := 20) (v := ?v20) rfl (by kernel_rfl) (by kernel_rfl) (by kernel_rfl) (fun _ _ _ h => h) (Or.inl ⟨by rfl, ?hy20⟩) hSw ?rest20
               case hy20 =>
                 intro w hw
                 obtain ⟨⟨a0, a1, a2, a3, a4, a5⟩, ⟨b0, b1', b2, b3, b4, b5⟩, ⟨c0, c1, c2, c3, c4, c5⟩⟩ := hw
                 go_simp
                 try with_reducible rfl)
          try simp only [Act.put, List.getElem_toArray, List.getElem_cons_zero, List.getElem_cons_succ, List.setIfInBounds_toArray, List.set_cons_zero, List.set_cons_succ]
          first
            | refine wpAnyH_take (i := 21) rfl (by kernel_rfl) (by kernel_rfl) (by kernel_rfl) (fun _ _ _ h => h) (Or.inr ⟨by rfl, rfl⟩) hSw ?_
            | (refine wpAnyH_take (i := 21) (v := ?v21) rfl (by kernel_rfl) (by kernel_rfl) (by kernel_rfl) (fun _ _ _ h => h) (Or.inl ⟨by rfl, ?hy21⟩) hSw ?rest21
               case hy21 =>
                 intro w hw
                 obtain ⟨⟨a0, a1, a2, a3, a4, a5⟩, ⟨b0, b1', b2, b3, b4, b5⟩, ⟨c0, c1, c2, c3, c4, c5⟩⟩ := hw
                 go_simp
                 try with_reducible rfl)
          try simp only [Act.put, List.getElem_toArray, List.getElem_cons_zero, List.getElem_cons_succ, List.setIfInBounds_toArray, List.set_cons_zero, List.set_cons_succ]
          first
            | refine wpAnyH_take (i := 22) rfl (by kernel_rfl) (by kernel_rfl) (by kernel_rfl) (fun _ _ _ h => h) (Or.inr ⟨by rfl, rfl⟩) hSw ?_
            | (refine wpAnyH_take (i := 22) (v := ?v22) rfl (by kernel_rfl) (by kernel_rfl) (by kernel_rfl) (fun _ _ _ h => h) (Or.inl ⟨by rfl, ?hy22⟩) hSw ?rest22
               case hy22 =>
                 intro w hw
                 obtain ⟨⟨a0, a1, a2, a3, a4, a5⟩, ⟨b0, b1', b2, b3, b4, b5⟩, ⟨c0, c1, c2, c3, c4, c5⟩⟩ := hw
                 go_simp
                 try with_reducible rfl)
          try simp only [Act.put, List.getElem_toArray, List.getElem_cons_zero, List.getElem_cons_succ, List.setIfInBounds_toArray, List.set_cons_zero, List.set_cons_succ]
          first
            | refine wpAnyH_take (i := 23) rfl (by kernel_rfl) (by kernel_rfl) (by kernel_rfl) (fun _ _ _ h => h) (Or.inr ⟨by rfl, rfl⟩) hSw ?_
            | (refine wpAnyH_take (i := 23) (v := ?v23) rfl (by kernel_rfl) (by kernel_rfl) (by kernel_rfl) (fun _ _ _ h => h) (Or.inl ⟨by rfl, ?hy23⟩) hSw ?rest23
               case hy23 =>
                 intro w hw
                 obtain ⟨⟨a0, a1, a2, a3, a4, a5⟩, ⟨b0, b1', b2, b3, b4, b5⟩, ⟨c0, c1, c2, c3, c4, c5⟩⟩ := hw
                 go_simp
                 try with_reducible rfl)
          try simp only [Act.put, List.getElem_toArray, List.getElem_cons_zero, List.getElem_cons_succ, List.setIfInBounds_toArray, List.set_cons_zero, List.set_cons_succ]
          first
            | refine wpAnyH_take (i := 24) rfl (by kernel_rfl) (by kernel_rfl) (by kernel_rfl) (fun _ _ _ h => h) (Or.inr ⟨by rfl, rfl⟩) hSw ?_
            | (refine wpAnyH_take (i := 24) (v := ?v24) rfl (by kernel_rfl) (by kernel_rfl) (by kernel_rfl) (fun _ _ _ h => h) (Or.inl ⟨by rfl, ?hy24⟩) hSw ?rest24
               case hy24 =>
                 intro w hw
                 obtain ⟨⟨a0, a1, a2, a3, a4, a5⟩, ⟨b0, b1', b2, b3, b4, b5⟩, ⟨c0, c1, c2, c3, c4, c5⟩⟩ := hw
                 go_simp
                 try with_reducible rfl)
          try simp only [Act.put, List.getElem_toArray, List.getElem_cons_zero, List.getElem_cons_succ, List.setIfInBounds_toArray, List.set_cons_zero, List.set_cons_succ]
          first
            | refine wpAnyH_take (i := 25) rfl (by kernel_rfl) (by kernel_rfl) (by kernel_rfl) (fun _ _ _ h => h) (Or.inr ⟨by rfl, rfl⟩) hSw ?_
            | (refine wpAnyH_take (i := 25) (v := ?v25) rfl (by kernel_rfl) (by kernel_rfl) (by kernel_rfl) (fun _ _ _ h => h) (Or.inl ⟨by rfl, ?hy25⟩) hSw ?rest25
               case hy25 =>
                 intro w hw
                 obtain ⟨⟨a0, a1, a2, a3, a4, a5⟩, ⟨b0, b1', b2, b3, b4, b5⟩, ⟨c0, c1, c2, c3, c4, c5⟩⟩ := hw
                 go_simp
                 try with_reducible rfl)
          try simp only [Act.put, List.getElem_toArray, List.getElem_cons_zero, List.getElem_cons_succ, List.setIfInBounds_toArray, List.set_cons_zero, List.set_cons_succ]
          first
            | refine wpAnyH_take (i := 26) rfl (by kernel_rfl) (by kernel_rfl) (by kernel_rfl) (fun _ _ _ h => h) (Or.inr ⟨by rfl, rfl⟩) hSw ?_
            | (refine wpAnyH_take (i := 26) (v := ?v26) rfl (by kernel_rfl) (by kernel_rfl) (by kernel_rfl) (fun _ _ _ h => h) (Or.inl ⟨by rfl, ?hy26⟩) hSw ?rest26
               case hy26 =>
                 intro w hw
                 obtain ⟨⟨a0, a1, a2, a3, a4, a5⟩, ⟨b0, b1', b2, b3, b4, b5⟩, ⟨c0, c1, c2, c3, c4, c5⟩⟩ := hw
                 go_simp
                 try with_reducible rfl)
          try simp only [Act.put, List.getElem_toArray, List.getElem_cons_zero, List.getElem_cons_succ, List.setIfInBounds_toArray, List.set_cons_zero, List.set_cons_succ]
          first
            | refine wpAnyH_take (i := 27) rfl (by kernel_rfl) (by kernel_rfl) (by kernel_rfl) (fun _ _ _ h => h) (Or.inr ⟨by rfl, rfl⟩) hSw ?_
            | (refine wpAnyH_take (i := 27) (v := ?v27) rfl (by kernel_rfl) (by kernel_rfl) (by kernel_rfl) (fun _ _ _ h => h) (Or.inl ⟨by rfl, ?hy27⟩) hSw ?rest27
               case hy27 =>
                 intro w hw
                 obtain ⟨⟨a0, a1, a2, a3, a4, a5⟩, ⟨b0, b1', b2, b3, b4, b5⟩, ⟨c0, c1, c2, c3, c4, c5⟩⟩ := hw
                 go_simp
                 try with_reducible rfl)
          try simp only [Act.put, List.getElem_toArray, List.getElem_cons_zero, List.getElem_cons_succ, List.setIfInBounds_toArray, List.set_cons_zero, List.set_cons_succ]
          first
            | refine wpAnyH_take (i := 28) rfl (by kernel_rfl) (by kernel_rfl) (by kernel_rfl) (fun _ _ _ h => h) (Or.inr ⟨by rfl, rfl⟩) hSw ?_
            | (refine wpAnyH_take (i := 28) (v := ?v28) rfl (by kernel_rfl) (by kernel_rfl) (by kernel_rfl) (fun _ _ _ h => h) (Or.inl ⟨by rfl, ?hy28⟩) hSw ?rest28
               case hy28 =>
                 intro w hw
                 obtain ⟨⟨a0, a1, a2, a3, a4, a5⟩, ⟨b0, b1', b2, b3, b4, b5⟩, ⟨c0, c1, c2, c3, c4, c5⟩⟩ := hw
                 go_simp
                 try with_reducible rfl)
          try simp only [Act.put, List.getElem_toArray, List.getElem_cons_zero, List.getElem_cons_succ, List.setIfInBounds_toArray, List.set_cons_zero, List.set_cons_succ]
          first
            | refine wpAnyH_take (i := 29) rfl (by kernel_rfl) (by kernel_rfl) (by kernel_rfl) (fun _ _ _ h => h) (Or.inr ⟨by rfl, rfl⟩) hSw ?_
            | (refine wpAnyH_take (i := 29) (v := ?v29) rfl (by kernel_rfl) (by kernel_rfl) (by kernel_rfl) (fun _ _ _ h => h) (Or.inl ⟨by rfl, ?hy29⟩) hSw ?rest29
               case hy29 =>
                 intro w hw
                 obtain ⟨⟨a0, a1, a2, a3, a4, a5⟩, ⟨b0, b1', b2, b3, b4, b5⟩, ⟨c0, c1, c2, c3, c4, c5⟩⟩ := hw
                 go_simp
                 try with_reducible rfl)
          try simp only [Act.put, List.getElem_toArray, List.getElem_cons_zero, List.getElem_cons_succ, List.setIfInBounds_toArray, List.set_cons_zero, List.set_cons_succ]
          first
            | refine wpAnyH_take (i := 30) rfl (by kernel_rfl) (by kernel_rfl) (by kernel_rfl) (fun _ _ _ h => h) (Or.inr ⟨by rfl, rfl⟩) hSw ?_
            | (refine wpAnyH_take (i := 30) (v := ?v30) rfl (by kernel_rfl) (by kernel_rfl) (by kernel_rfl) (fun _ _ _ h => h) (Or.inl ⟨by rfl, ?hy30⟩) hSw ?rest30
               case hy30 =>
                 intro w hw
                 obtain ⟨⟨a0, a1, a2, a3, a4, a5⟩, ⟨b0, b1', b2, b3, b4, b5⟩, ⟨c0, c1, c2, c3, c4, c5⟩⟩ := hw
                 go_simp
                 try with_reducible rfl)
          try simp only [Act.put, List.getElem_toArray, List.getElem_cons_zero, List.getElem_cons_succ, List.setIfInBounds_toArray, List.set_cons_zero, List.set_cons_succ]
          first
            | refine wpAnyH_take (i := 31) rfl (by kernel_rfl) (by kernel_rfl) (by kernel_rfl) (fun _ _ _ h => h) (Or.inr ⟨by rfl, rfl⟩) hSw ?_
            | (refine wpAnyH_take (i := 31) (v := ?v31) rfl (by kernel_rfl) (by kernel_rfl) (by kernel_rfl) (fun _ _ _ h => h) (Or.inl ⟨by rfl, ?hy31⟩) hSw ?rest31
               case hy31 =>
                 intro w hw
                 obtain ⟨⟨a0, a1, a2, a3, a4, a5⟩, ⟨b0, b1', b2, b3, b4, b5⟩, ⟨c0, c1, c2, c3, c4, c5⟩⟩ := hw
                 go_simp
                 try with_reducible rfl)
          try simp only [Act.put, List.getElem_toArray, List.getElem_cons_zero, List.getElem_cons_succ, List.setIfInBounds_toArray, List.set_cons_zero, List.set_cons_succ]
          first
            | refine wpAnyH_take (i := 32) rfl (by kernel_rfl) (by kernel_rfl) (by kernel_rfl) (fun _ _ _ h => h) (Or.inr ⟨by rfl, rfl⟩) hSw ?_
            | (refine wpAnyH_take (i := 32) (v := ?v32) rfl (by kernel_rfl) (by kernel_rfl) (by kernel_rfl) (fun _ _ _ h => h) (Or.inl ⟨by rfl, ?hy32⟩) hSw ?rest32
               case hy32 =>
                 intro w hw
                 obtain ⟨⟨a0, a1, a2, a3, a4, a5⟩, ⟨b0, b1', b2, b3, b4, b5⟩, ⟨c0, c1, c2, c3, c4, c5⟩⟩ := hw
                 go_simp
                 try with_reducible rfl)
          try simp only [Act.put, List.getElem_toArray, List.getElem_cons_zero, List.getElem_cons_succ, List.setIfInBounds_toArray, List.set_cons_zero, List.set_cons_succ]
          first
            | refine wpAnyH_take (i := 33) rfl (by kernel_rfl) (by kernel_rfl) (by kernel_rfl) (fun _ _ _ h => h) (Or.inr ⟨by rfl, rfl⟩) hSw ?_
            | (refine wpAnyH_take (i := 33) (v := ?v33) rfl (by kernel_rfl) (by kernel_rfl) (by kernel_rfl) (fun _ _ _ h => h) (Or.inl ⟨by rfl, ?hy33⟩) hSw ?rest33
               case hy33 =>
                 intro w hw
                 obtain ⟨⟨a0, a1, a2, a3, a4, a5⟩, ⟨b0, b1', b2, b3, b4, b5⟩, ⟨c0, c1, c2, c3, c4, c5⟩⟩ := hw
                 go_simp
                 try with_reducible rfl)
          try simp only [Act.put, List.getElem_toArray, List.getElem_cons_zero, List.getElem_cons_succ, List.setIfInBounds_toArray, List.set_cons_zero, List.set_cons_succ]
          first
            | refine wpAnyH_take (i := 34) rfl (by kernel_rfl) (by kernel_rfl) (by kernel_rfl) (fun _ _ _ h => h) (Or.inr ⟨by rfl, rfl⟩) hSw ?_
            | (refine wpAnyH_take (i := 34) (v := ?v34) rfl (by kernel_rfl) (by kernel_rfl) (by kernel_rfl) (fun _ _ _ h => h) (Or.inl ⟨by rfl, ?hy34⟩) hSw ?rest34
               case hy34 =>
                 intro w hw
                 obtain ⟨⟨a0, a1, a2, a3, a4, a5⟩, ⟨b0, b1', b2, b3, b4, b5⟩, ⟨c0, c1, c2, c3, c4, c5⟩⟩ := hw
                 go_simp
                 try with_reducible rfl)
          try simp only [Act.put, List.getElem_toArray, List.getElem_cons_zero, List.getElem_cons_succ, List.setIfInBounds_toArray, List.set_cons_zero, List.set_cons_succ]
          first
            | refine wpAnyH_take (i := 35) rfl (by kernel_rfl) (by kernel_rfl) (by kernel_rfl) (fun _ _ _ h => h) (Or.inr ⟨by rfl, rfl⟩) hSw ?_
            | (refine wpAnyH_take (i := 35) (v := ?v35) rfl (by kernel_rfl) (by kernel_rfl) (by kernel_rfl) (fun _ _ _ h => h) (Or.inl ⟨by rfl, ?hy35⟩) hSw ?rest35
               case hy35 =>
                 intro w hw
                 obtain ⟨⟨a0, a1, a2, a3, a4, a5⟩, ⟨b0, b1', b2, b3, b4, b5⟩, ⟨c0, c1, c2, c3, c4, c5⟩⟩ := hw
                 go_simp
                 try with_reducible rfl)
          try simp only [Act.put, List.getElem_toArray, List.getElem_cons_zero, List.getElem_cons_succ, List.setIfInBounds_toArray, List.set_cons_zero, List.set_cons_succ]
          first
            | refine wpAnyH_take (i := 36) rfl (by kernel_rfl) (by kernel_rfl) (by kernel_rfl) (fun _ _ _ h => h) (Or.inr ⟨by rfl, rfl⟩) hSw ?_
            | (refine wpAnyH_take (i := 36) (v := ?v36) rfl (by kernel_rfl) (by kernel_rfl) (by kernel_rfl) (fun _ _ _ h => h) (Or.inl ⟨by rfl, ?hy36⟩) hSw ?rest36
               case hy36 =>
                 intro w hw
                 obtain ⟨⟨a0, a1, a2, a3, a4, a5⟩, ⟨b0, b1', b2, b3, b4, b5⟩, ⟨c0, c1, c2, c3, c4, c5⟩⟩ := hw
                 go_simp
                 try with_reducible rfl)
          try simp only [Act.put, List.getElem_toArray, List.getElem_cons_zero, List.getElem_cons_succ, List.setIfInBounds_toArray, List.set_cons_zero, List.set_cons_succ]
          first
            | refine wpAnyH_take (i := 37) rfl (by kernel_rfl) (by kernel_rfl) (by kernel_rfl) (fun _ _ _ h => h) (Or.inr ⟨by rfl, rfl⟩) hSw ?_
            | (refine wpAnyH_take (i := 37) (v := ?v37) rfl (by kernel_rfl) (by kernel_rfl) (by kernel_rfl) (fun _ _ _ h => h) (Or.inl ⟨by rfl, ?hy37⟩) hSw ?rest37
               case hy37 =>
                 intro w hw
                 obtain ⟨⟨a0, a1, a2, a3, a4, a5⟩, ⟨b0, b1', b2, b3, b4, b5⟩, ⟨c0, c1, c2, c3, c4, c5⟩⟩ := hw
                 go_simp
                 try with_reducible rfl)
          try simp only [Act.put, List.getElem_toArray, List.getElem_cons_zero, List.getElem_cons_succ, List.setIfInBounds_toArray, List.set_cons_zero, List.set_cons_succ]
          first
            | refine wpAnyH_take (i := 38) rfl (by kernel_rfl) (by kernel_rfl) (by kernel_rfl) (fun _ _ _ h => h) (Or.inr ⟨by rfl, rfl⟩) hSw ?_
            | (refine wpAnyH_take (i := 38) (v := ?v38) rfl (by kernel_rfl) (by kernel_rfl) (by kernel_rfl) (fun _ _ _ h => h) (Or.inl ⟨by rfl, ?hy38⟩) hSw ?rest38
               case hy38 =>
                 intro w hw
                 obtain ⟨⟨a0, a1, a2, a3, a4, a5⟩, ⟨b0, b1', b2, b3, b4, b5⟩, ⟨c0, c1, c2, c3, c4, c5⟩⟩ := hw
                 go_simp
                 try with_reducible rfl)
          try simp only [Act.put, List.getElem_toArray, List.getElem_cons_zero, List.getElem_cons_succ, List.setIfInBounds_toArray, List.set_cons_zero, List.set_cons_succ]
          first
            | refine wpAnyH_take (i := 39) rfl (by kernel_rfl) (by kernel_rfl) (by kernel_rfl) (fun _ _ _ h => h) (Or.inr ⟨by rfl, rfl⟩) hSw ?_
            | (refine wpAnyH_take (i := 39) (v := ?v39) rfl (by kernel_rfl) (by kernel_rfl) (by kernel_rfl) (fun _ _ _ h => h) (Or.inl ⟨by rfl, ?hy39⟩) hSw ?rest39
               case hy39 =>
                 intro w hw
                 obtain ⟨⟨a0, a1, a2, a3, a4, a5⟩, ⟨b0, b1', b2, b3, b4, b5⟩, ⟨c0, c1, c2, c3, c4, c5⟩⟩ := hw
                 go_simp
                 try with_reducible rfl)
          try simp only [Act.put, List.getElem_toArray, List.getElem_cons_zero, List.getElem_cons_succ, List.setIfInBounds_toArray, List.set_cons_zero, List.set_cons_succ]
          first
            | refine wpAnyH_take (i := 40) rfl (by kernel_rfl) (by kernel_rfl) (by kernel_rfl) (fun _ _ _ h => h) (Or.inr ⟨by rfl, rfl⟩) hSw ?_
            | (refine wpAnyH_take (i := 40) (v := ?v40) rfl (by kernel_rfl) (by kernel_rfl) (by kernel_rfl) (fun _ _ _ h => h) (Or.inl ⟨by rfl, ?hy40⟩) hSw ?rest40
               case hy40 =>
                 intro w hw
                 obtain ⟨⟨a0, a1, a2, a3, a4, a5⟩, ⟨b0, b1', b2, b3, b4, b5⟩, ⟨c0, c1, c2, c3, c4, c5⟩⟩ := hw
                 go_simp
                 try with_reducible rfl)
          try simp only [Act.put, List.getElem_toArray, List.getElem_cons_zero, List.getElem_cons_succ, List.setIfInBounds_toArray, List.set_cons_zero, List.set_cons_succ]
          first
            | refine wpAnyH_take (i := 41) rfl (by kernel_rfl) (by kernel_rfl) (by kernel_rfl) (fun _ _ _ h => h) (Or.inr ⟨by rfl, rfl⟩) hSw ?_
            | (refine wpAnyH_take (i := 41) (v := ?v41) rfl (by kernel_rfl) (by kernel_rfl) (by kernel_rfl) (fun _ _ _ h => h) (Or.inl ⟨by rfl, ?hy41⟩) hSw ?rest41
               case hy41 =>
                 intro w hw
                 obtain ⟨⟨a0, a1, a2, a3, a4, a5⟩, ⟨b0, b1', b2, b3, b4, b5⟩, ⟨c0, c1, c2, c3, c4, c5⟩⟩ := hw
                 go_simp
                 try with_reducible rfl)
          try simp only [Act.put, List.getElem_toArray, List.getElem_cons_zero, List.getElem_cons_succ, List.setIfInBounds_toArray, List.set_cons_zero, List.set_cons_succ]
          first
            | refine wpAnyH_take (i := 42) rfl (by kernel_rfl) (by kernel_rfl) (by kernel_rfl) (fun _ _ _ h => h) (Or.inr ⟨by rfl, rfl⟩) hSw ?_
            | (refine wpAnyH_take (i := 42) (v := ?v42) rfl (by kernel_rfl) (by kernel_rfl) (by kernel_rfl) (fun _ _ _ h => h) (Or.inl ⟨by rfl, ?hy42⟩) hSw ?rest42
               case hy42 =>
                 intro w hw
                 obtain ⟨⟨a0, a1, a2, a3, a4, a5⟩, ⟨b0, b1', b2, b3, b4, b5⟩, ⟨c0, c1, c2, c3, c4, c5⟩⟩ := hw
                 go_simp
                 try with_reducible rfl)
          try simp only [Act.put, List.getElem_toArray, List.getElem_cons_zero, List.getElem_cons_succ, List.setIfInBounds_toArray, List.set_cons_zero, List.set_cons_succ]
          first
            | refine wpAnyH_take (i := 43) rfl (by kernel_rfl) (by kernel_rfl) (by kernel_rfl) (fun _ _ _ h => h) (Or.inr ⟨by rfl, rfl⟩) hSw ?_
            | (refine wpAnyH_take (i := 43) (v := ?v43) rfl (by kernel_rfl) (by kernel_rfl) (by kernel_rfl) (fun _ _ _ h => h) (Or.inl ⟨by rfl, ?hy43⟩) hSw ?rest43
               case hy43 =>
                 intro w hw
                 obtain ⟨⟨a0, a1, a2, a3, a4, a5⟩, ⟨b0, b1', b2, b3, b4, b5⟩, ⟨c0, c1, c2, c3, c4, c5⟩⟩ := hw
                 go_simp
                 try with_reducible rfl)
          try simp only [Act.put, List.getElem_toArray, List.getElem_cons_zero, List.getElem_cons_succ, List.setIfInBounds_toArray, List.set_cons_zero, List.set_cons_succ]
          first
            | refine wpAnyH_take (i := 44) rfl (by kernel_rfl) (by kernel_rfl) (by kernel_rfl) (fun _ _ _ h => h) (Or.inr ⟨by rfl, rfl⟩) hSw ?_
            | (refine wpAnyH_take (i := 44) (v := ?v44) rfl (by kernel_rfl) (by kernel_rfl) (by kernel_rfl) (fun _ _ _ h => h) (Or.inl ⟨by rfl, ?hy44⟩) hSw ?rest44
               case hy44 =>
                 intro w hw
                 obtain ⟨⟨a0, a1, a2, a3, a4, a5⟩, ⟨b0, b1', b2, b3, b4, b5⟩, ⟨c0, c1, c2, c3, c4, c5⟩⟩ := hw
                 go_simp
                 try with_reducible rfl)
          try simp only [Act.put, List.getElem_toArray, List.getElem_cons_zero, List.getElem_cons_succ, List.setIfInBounds_toArray, List.set_cons_zero, List.set_cons_succ]
          first
            | refine wpAnyH_take (i := 45) rfl (by kernel_rfl) (by kernel_rfl) (by kernel_rfl) (fun _ _ _ h => h) (Or.inr ⟨by rfl, rfl⟩) hSw ?_
            | (refine wpAnyH_take (i := 45) (v := ?v45) rfl (by kernel_rfl) (by kernel_rfl) (by kernel_rfl) (fun _ _ _ h => h) (Or.inl ⟨by rfl, ?hy45⟩) hSw ?rest45
               case hy45 =>
                 intro w hw
                 obtain ⟨⟨a0, a1, a2, a3, a4, a5⟩, ⟨b0, b1', b2, b3, b4, b5⟩, ⟨c0, c1, c2, c3, c4, c5⟩⟩ := hw
                 go_simp
                 try with_reducible rfl)
          try simp only [Act.put, List.getElem_toArray, List.getElem_cons_zero, List.getElem_cons_succ, List.setIfInBounds_toArray, List.set_cons_zero, List.set_cons_succ]
          first
            | refine wpAnyH_take (i := 46) rfl (by kernel_rfl) (by kernel_rfl) (by kernel_rfl) (fun _ _ _ h => h) (Or.inr ⟨by rfl, rfl⟩) hSw ?_
            | (refine wpAnyH_take (i := 46) (v := ?v46) rfl (by kernel_rfl) (by kernel_rfl) (by kernel_rfl) (fun _ _ _ h => h) (Or.inl ⟨by rfl, ?hy46⟩) hSw ?rest46
               case hy46 =>
                 intro w hw
                 obtain ⟨⟨a0, a1, a2, a3, a4, a5⟩, ⟨b0, b1', b2, b3, b4, b5⟩, ⟨c0, c1, c2, c3, c4, c5⟩⟩ := hw
                 go_simp
                 try with_reducible rfl)
          try simp only [Act.put, List.getElem_toArray, List.getElem_cons_zero, List.getElem_cons_succ, List.setIfInBounds_toArray, List.set_cons_zero, List.set_cons_succ]
          first
            | refine wpAnyH_take (i := 47) rfl (by kernel_rfl) (by kernel_rfl) (by kernel_rfl) (fun _ _ _ h => h) (Or.inr ⟨by rfl, rfl⟩) hSw ?_
            | (refine wpAnyH_take (i := 47) (v := ?v47) rfl (by kernel_rfl) (by kernel_rfl) (by kernel_rfl) (fun _ _ _ h => h) (Or.inl ⟨by rfl, ?hy47⟩) hSw ?rest47
               case hy47 =>
                 intro w hw
                 obtain ⟨⟨a0, a1, a2, a3, a4, a5⟩, ⟨b0, b1', b2, b3, b4, b5⟩, ⟨c0, c1, c2, c3, c4, c5⟩⟩ := hw
                 go_simp
                 try with_reducible rfl)
          try simp only [Act.put, List.getElem_toArray, List.getElem_cons_zero, List.getElem_cons_succ, List.setIfInBounds_toArray, List.set_cons_zero, List.set_cons_succ]
          first
            | refine wpAnyH_take (i := 48) rfl (by kernel_rfl) (by kernel_rfl) (by kernel_rfl) (fun _ _ _ h => h) (Or.inr ⟨by rfl, rfl⟩) hSw ?_
            | (refine wpAnyH_take (i := 48) (v := ?v48) rfl (by kernel_rfl) (by kernel_rfl) (by kernel_rfl) (fun _ _ _ h => h) (Or.inl ⟨by rfl, ?hy48⟩) hSw ?rest48
               case hy48 =>
                 intro w hw
                 obtain ⟨⟨a0, a1, a2, a3, a4, a5⟩, ⟨b0, b1', b2, b3, b4, b5⟩, ⟨c0, c1, c2, c3, c4, c5⟩⟩ := hw
                 go_simp
                 try with_reducible rfl)
          try simp only [Act.put, List.getElem_toArray, List.getElem_cons_zero, List.getElem_cons_succ, List.setIfInBounds_toArray, List.set_cons_zero, List.set_cons_succ]
          first
            | refine wpAnyH_take (i := 49) rfl (by kernel_rfl) (by kernel_rfl) (by kernel_rfl) (fun _ _ _ h => h) (Or.inr ⟨by rfl, rfl⟩) hSw ?_
            | (refine wpAnyH_take (i := 49) (v := ?v49) rfl (by kernel_rfl) (by kernel_rfl) (by kernel_rfl) (fun _ _ _ h => h) (Or.inl ⟨by rfl, ?hy49⟩) hSw ?rest49
               case hy49 =>
                 intro w hw
                 obtain ⟨⟨a0, a1, a2, a3, a4, a5⟩, ⟨b0, b1', b2, b3, b4, b5⟩, ⟨c0, c1, c2, c3, c4, c5⟩⟩ := hw
                 go_simp
                 try with_reducible rfl)
          try simp only [Act.put, List.getElem_toArray, List.getElem_cons_zero, List.getElem_cons_succ, List.setIfInBounds_toArray, List.set_cons_zero, List.set_cons_succ]
          first
            | refine wpAnyH_take (i := 50) rfl (by kernel_rfl) (by kernel_rfl) (by kernel_rfl) (fun _ _ _ h => h) (Or.inr ⟨by rfl, rfl⟩) hSw ?_
            | (refine wpAnyH_take (i := 50) (v := ?v50) rfl (by kernel_rfl) (by kernel_rfl) (by kernel_rfl) (fun _ _ _ h => h) (Or.inl ⟨by rfl, ?hy50⟩) hSw ?rest50
               case hy50 =>
                 intro w hw
                 obtain ⟨⟨a0, a1, a2, a3, a4, a5⟩, ⟨b0, b1', b2, b3, b4, b5⟩, ⟨c0, c1, c2, c3, c4, c5⟩⟩ := hw
                 go_simp
                 try with_reducible rfl)
          try simp only [Act.put, List.getElem_toArray, List.getElem_cons_zero, List.getElem_cons_succ, List.setIfInBounds_toArray, List.set_cons_zero, List.set_cons_succ]
          first
            | refine wpAnyH_take (i := 51) rfl (by kernel_rfl) (by kernel_rfl) (by kernel_rfl) (fun _ _ _ h => h) (Or.inr ⟨by rfl, rfl⟩) hSw ?_
            | (refine wpAnyH_take (i := 51) (v := ?v51) rfl (by kernel_rfl) (by kernel_rfl) (by kernel_rfl) (fun _ _ _ h => h) (Or.inl ⟨by rfl, ?hy51⟩) hSw ?rest51
               case hy51 =>
                 intro w hw
                 obtain ⟨⟨a0, a1, a2, a3, a4, a5⟩, ⟨b0, b1', b2, b3, b4, b5⟩, ⟨c0, c1, c2, c3, c4, c5⟩⟩ := hw
                 go_simp
                 try with_reducible rfl)
          try simp only [Act.put, List.getElem_toArray, List.getElem_cons_zero, List.getElem_cons_succ, List.setIfInBounds_toArray, List.set_cons_zero, List.set_cons_succ]
          first
            | refine wpAnyH_take (i := 52) rfl (by kernel_rfl) (by kernel_rfl) (by kernel_rfl) (fun _ _ _ h => h) (Or.inr ⟨by rfl, rfl⟩) hSw ?_
            | (refine wpAnyH_take (i := 52) (v := ?v52) rfl (by kernel_rfl) (by kernel_rfl) (by kernel_rfl) (fun _ _ _ h => h) (Or.inl ⟨by rfl, ?hy52⟩) hSw ?rest52
               case hy52 =>
                 intro w hw
                 obtain ⟨⟨a0, a1, a2, a3, a4, a5⟩, ⟨b0, b1', b2, b3, b4, b5⟩, ⟨c0, c1, c2, c3, c4, c5⟩⟩ := hw
                 go_simp
                 try with_reducible rfl)
          try simp only [Act.put, List.getElem_toArray, List.getElem_cons_zero, List.getElem_cons_succ, List.setIfInBounds_toArray, List.set_cons_zero, List.set_cons_succ]
          first
            | refine wpAnyH_take (i := 53) rfl (by kernel_rfl) (by kernel_rfl) (by kernel_rfl) (fun _ _ _ h => h) (Or.inr ⟨by rfl, rfl⟩) hSw ?_
            | (refine wpAnyH_take (i := 53) (v := ?v53) rfl (by kernel_rfl) (by kernel_rfl) (by kernel_rfl) (fun _ _ _ h => h) (Or.inl ⟨by rfl, ?hy53⟩) hSw ?rest53
               case hy53 =>
                 intro w hw
                 obtain ⟨⟨a0, a1, a2, a3, a4, a5⟩, ⟨b0, b1', b2, b3, b4, b5⟩, ⟨c0, c1, c2, c3, c4, c5⟩⟩ := hw
                 go_simp
                 try with_reducible rfl)
          try simp only [Act.put, List.getElem_toArray, List.getElem_cons_zero, List.getElem_cons_succ, List.setIfInBounds_toArray, List.set_cons_zero, List.set_cons_succ]
          first
            | refine wpAnyH_take (i := 54) rfl (by kernel_rfl) (by kernel_rfl) (by kernel_rfl) (fun _ _ _ h => h) (Or.inr ⟨by rfl, rfl⟩) hSw ?_
            | (refine wpAnyH_take (i := 54) (v := ?v54) rfl (by kernel_rfl) (by kernel_rfl) (by kernel_rfl) (fun _ _ _ h => h) (Or.inl ⟨by rfl, ?hy54⟩) hSw ?rest54
               case hy54 =>
                 intro w hw
                 obtain ⟨⟨a0, a1, a2, a3, a4, a5⟩, ⟨b0, b1', b2, b3, b4, b5⟩, ⟨c0, c1, c2, c3, c4, c5⟩⟩ := hw
                 go_simp
                 try with_reducible rfl)
          try simp only [Act.put, List.getElem_toArray, List.getElem_cons_zero, List.getElem_cons_succ, List.setIfInBounds_toArray, List.set_cons_zero, List.set_cons_succ]
          first
            | refine wpAnyH_take (i := 55) rfl (by kernel_rfl) (by kernel_rfl) (by kernel_rfl) (fun _ _ _ h => h) (Or.inr ⟨by rfl, rfl⟩) hSw ?_
            | (refine wpAnyH_take (i := 55) (v := ?v55) rfl (by kernel_rfl) (by kernel_rfl) (by kernel_rfl) (fun _ _ _ h => h) (Or.inl ⟨by rfl, ?hy55⟩) hSw ?rest55
               case hy55 =>
                 intro w hw
                 obtain ⟨⟨a0, a1, a2, a3, a4, a5⟩, ⟨b0, b1', b2, b3, b4, b5⟩, ⟨c0, c1, c2, c3, c4, c5⟩⟩ := hw
                 go_simp
                 try with_reducible rfl)
          try simp only [Act.put, List.getElem_toArray, List.getElem_cons_zero, List.getElem_cons_succ, List.setIfInBounds_toArray, List.set_cons_zero, List.set_cons_succ]
          first
            | refine wpAnyH_take (i := 56) rfl (by kernel_rfl) (by kernel_rfl) (by kernel_rfl) (fun _ _ _ h => h) (Or.inr ⟨by rfl, rfl⟩) hSw ?_
            | (refine wpAnyH_take (i := 56) (v := ?v56) rfl (by kernel_rfl) (by kernel_rfl) (by kernel_rfl) (fun _ _ _ h => h) (Or.inl ⟨by rfl, ?hy56⟩) hSw ?rest56
               case hy56 =>
                 intro w hw
                 obtain ⟨⟨a0, a1, a2, a3, a4, a5⟩, ⟨b0, b1', b2, b3, b4, b5⟩, ⟨c0, c1, c2, c3, c4, c5⟩⟩ := hw
                 go_simp
                 try with_reducible rfl)
          try simp only [Act.put, List.getElem_toArray, List.getElem_cons_zero, List.getElem_cons_succ, List.setIfInBounds_toArray, List.set_cons_zero, List.set_cons_succ]
          first
            | refine wpAnyH_take (i := 57) rfl (by kernel_rfl) (by kernel_rfl) (by kernel_rfl) (fun _ _ _ h => h) (Or.inr ⟨by rfl, rfl⟩) hSw ?_
            | (refine wpAnyH_take (i := 57) (v := ?v57) rfl (by kernel_rfl) (by kernel_rfl) (by kernel_rfl) (fun _ _ _ h => h) (Or.inl ⟨by rfl, ?hy57⟩) hSw ?rest57
               case hy57 =>
                 intro w hw
                 obtain ⟨⟨a0, a1, a2, a3, a4, a5⟩, ⟨b0, b1', b2, b3, b4, b5⟩, ⟨c0, c1, c2, c3, c4, c5⟩⟩ := hw
                 go_simp
                 try with_reducible rfl)
          try simp only [Act.put, List.getElem_toArray, List.getElem_cons_zero, List.getElem_cons_succ, List.setIfInBounds_toArray, List.set_cons_zero, List.set_cons_succ]
          first
            | refine wpAnyH_take (i := 58) rfl (by kernel_rfl) (by kernel_rfl) (by kernel_rfl) (fun _ _ _ h => h) (Or.inr ⟨by rfl, rfl⟩) hSw ?_
            | (refine wpAnyH_take (i := 58) (v := ?v58) rfl (by kernel_rfl) (by kernel_rfl) (by kernel_rfl) (fun _ _ _ h => h) (Or.inl ⟨by rfl, ?hy58⟩) hSw ?rest58
               case hy58 =>
                 intro w hw
                 obtain ⟨⟨a0, a1, a2, a3, a4, a5⟩, ⟨b0, b1', b2, b3, b4, b5⟩, ⟨c0, c1, c2, c3, c4, c5⟩⟩ := hw
                 go_simp
                 try with_reducible rfl)
          try simp only [Act.put, List.getElem_toArray, List.getElem_cons_zero, List.getElem_cons_succ, List.setIfInBounds_toArray, List.set_cons_zero, List.set_cons_succ]
          first
            | refine wpAnyH_take (i := 59) rfl (by kernel_rfl) (by kernel_rfl) (by kernel_rfl) (fun _ _ _ h => h) (Or.inr ⟨by rfl, rfl⟩) hSw ?_
            | (refine wpAnyH_take (i := 59) (v := ?v59) rfl (by kernel_rfl) (by kernel_rfl) (by kernel_rfl) (fun _ _ _ h => h) (Or.inl ⟨by rfl, ?hy59⟩) hSw ?rest59
               case hy59 =>
                 intro w hw
                 obtain ⟨⟨a0, a1, a2, a3, a4, a5⟩, ⟨b0, b1', b2, b3, b4, b5⟩, ⟨c0, c1, c2, c3, c4, c5⟩⟩ := hw
                 go_simp
                 try with_reducible rfl)
          try simp only [Act.put, List.getElem_toArray, List.getElem_cons_zero, List.getElem_cons_succ, List.setIfInBounds_toArray, List.set_cons_zero, List.set_cons_succ]
          refine wpAnyH_ready (rs := [60]) (by kernel_rfl) (by simp) ?_
          refine AllReadyH.cons rfl (fun K hK => ?_) AllReadyH.nil
          rw [if_pos (by kernel_rfl)]
          go_simp
          (go_at_call 14; ((with_reducible refine (HRd.out _).mono ?_); rintro e w9 ⟨rfl, h9⟩; have HU9 := Lib.hid (HUc.out.trans ((Up.drew _).trans h9))))
          try go_wp2
          refine hK.out _ _ ⟨hSw.1.up h9, hSw.2.1.up h9, hSw.2.2.up h9⟩ (fun hSw2 => ?_)
          clear hK K h9 hSw
          try simp only [Act.put, List.getElem_toArray, List.getElem_cons_zero, List.getElem_cons_succ, List.setIfInBounds_toArray, List.set_cons_zero, List.set_cons_succ]
          refine wpAnyH_take (i := 61) (v := ?v61) rfl (by kernel_rfl) (by kernel_rfl) (by kernel_rfl) (fun _ _ _ h => h) (Or.inl ⟨by rfl, ?hy61⟩) hSw2 ?rest61
          case hy61 =>
            intro w hw
            go_simp
            try with_reducible rfl
          try simp only [Act.put, List.getElem_toArray, List.getElem_cons_zero, List.getElem_cons_succ, List.setIfInBounds_toArray, List.set_cons_zero, List.set_cons_succ]
          refine wpAnyH_take (i := 62) (v := ?v62) rfl (by kernel_rfl) (by kernel_rfl) (by kernel_rfl) (fun _ _ _ h => h) (Or.inl ⟨by rfl, ?hy62⟩) hSw2 ?rest62
          case hy62 =>
            intro w hw
            go_simp
            try with_reducible rfl
          try simp only [Act.put, List.getElem_toArray, List.getElem_cons_zero, List.getElem_cons_succ, List.setIfInBounds_toArray, List.set_cons_zero, List.set_cons_succ]
          refine wpAnyH_done (by kernel_rfl) ?_ _
          all_goals
            go_wp2
            go_ret
            exact ⟨rfl, HU9.out⟩
set_option linter.unusedVariables false in
set_option maxRecDepth 100000 in
set_option maxHeartbeats 8000000 in
theorem rows_b (w : World) (x y z : Int) (j q r c n : Nat) (cb : UInt8) (hj : x.tmod 6 = (j : Nat)) (hq : y.tmod 60 = (q : Nat)) (hr : z.tmod 5 = (r : Nat)) (hj6 : j < 6) (hq60 : q < 60) (hr5 : r < 5) (hcb : chS.extract j (j + 1) = ⟨#[cb]⟩) (hcn : cb.toNat = c) (hn : 1 + q = n)
    (HR0 : ∀ (X : ByteArray) (W : World), bl X = rowS c n r → Calls Tryd.prog 7 #[.string X, .int .i64 0] W fun e w' => e = .returned (.tuple #[.agg #[.int .u8 (c : Nat), .int .i64 (n : Nat), .int .i64 0, .int .i64 0, .int .i64 0, .int .i64 (n : Nat)], .bool true]) ∧ Up W w')
    (HU0 : ∀ (X : ByteArray) (W : World), bl X = rowS c n r → Calls Tryd.prog 9 #[.string X, .int .i64 0] W fun e w' => e = .returned (.tuple #[.agg #[.int .u8 (c : Nat), .int .i64 (n : Nat), .int .i64 0, .int .i64 0, .int .i64 0, .int .i64 (n : Nat)], .bool true]) ∧ Up W w')
    (HF0 : ∀ (X : ByteArray) (W : World), bl X = rowS c n r ++ [10] → Calls Tryd.prog 10 #[.string X, .int .i64 0] W fun e w' => e = .returned (.tuple #[.agg #[.int .u8 0, .int .i64 0, .int .i64 0, .int .i64 0, .int .i64 0, .int .i64 0], .bool false]) ∧ Up W w') (q1 : j < 3) (q2 : j = 1) (q3 : j ≠ 3) (q4 : ¬ 3 < j) (q5 : 3 ≤ n) :
    Calls Tryd.prog 5 #[.int .u8 x, .int .u8 y, .int .u8 z] w fun e w' => e = .returned (.bool true) ∧ Up w w' := by
  have q1' : (j : Int) < 3 := by omega
  have q2' : ((j : Int) == 1) = true := by rw [q2]; rfl
  have q3' : ((j : Int) == 3) = false := beq_eq_false_iff_ne.2 (by omega)
  have q4' : ¬ ((3 : Int) < (j : Int)) := by omega
  have q5' : (3 : Int) ≤ (n : Int) := by omega
  have hcv := conv96 w
  have HRd := Lib.hid (fun W => reads_any W)
  have HRu := Lib.hid HR0
  have HUn := Lib.hid HU0
  have HFe := Lib.hid HF0
  have hsl : (({ data := #[42, 45, 95, 61, 126] } : ByteArray) ++ { data := #[96] }).extract j (j + 1) = ⟨#[cb]⟩ := hcb
  have hs0 : ((({ data := #[42, 45, 95, 61, 126] } : ByteArray) ++ { data := #[96] }).size : Int) = 6 := rfl
  have hs1 : (({ data := #[42, 45, 95, 61, 126] } : ByteArray) ++ { data := #[96] }).size = 6 := rfl
  have j0 : (0 : Int) ≤ (j : Int) := by omega
  have j1 : (j : Int) ≤ (j : Int) + 1 := by omega
  have j2 : (j : Int) + 1 ≤ 6 := by omega
  have e1 : ((j : Int) + 1) % 256 = (j : Int) + 1 := by omega
  have HE4 := Lib.hid (show IntKind.i64.wrap (r : Int) = (r : Nat) from IntWalk.i64_in _ (by omega))
  have HQ := Lib.hid (And.intro hj6 (And.intro hq60 (And.intro hr5 (And.intro hcn hn))))
  have e2 : IntKind.i64.wrap (q : Int) = (q : Nat) := IntWalk.i64_in _ (by omega)
  have e3 : IntKind.i64.wrap (1 + (q : Int)) = ((1 + q : Nat) : Int) := (IntWalk.i64_in _ (by omega)).trans (by omega)
  clear q1 q2 q3 q4 q5
  clear hj6 hq60 hr5 hcn hcb HR0 HU0 HF0 hn
  go_enter Tryd.func5, Tryd.ntmps5
  go_upto_region 4 with fail
  obtain ⟨a6, a60, a5, hcn, hn⟩ := HQ.out
  have hn2 : (1 + (q : Int)) = (n : Int) := by omega
  rw [hn2]
  obtain ⟨W1, hW1⟩ : ∃ W1, w.alloc (.cells #[.int .u8 96] 5) = W1 := ⟨_, rfl⟩
  have HU1 := Lib.hid (show Up w W1 by rw [← hW1]; exact Up.alloc _ _)
  rw [hW1]
  generalize (({ data := #[42, 45, 95, 61, 126] } : ByteArray) ++ { data := #[96] }) = T0 at *
  obtain ⟨S, hS⟩ : ∃ S : ByteArray, ⟨#[cb]⟩ = S := ⟨_, rfl⟩
  have hS1 : S.size = 1 := by rw [← hS]; rfl
  have hSb : bl S = [c] := by rw [← hS, bl_one, hcn]
  have p1 : (0 : Int) < S.size := by omega
  have hS0 : S[0].toNat = c := by
    have h1 := bl_at (s := S) (i := 0) (by omega)
    rw [hSb] at h1
    rw [bt_eq (by omega)]
    exact (Option.some.inj h1).symm
  rw [hS]
  have HSb := Lib.hid hSb
  have hn60 : n ≤ 60 := by omega
  have HN := Lib.hid (And.intro hn60 (And.intro a5 (show 0 < n by omega)))
  clear hcv hsl hs0 hs1 j0 j1 j2 e1 e2 e3 hW1 hn2 a6 a60 a5 hcn hn hS hSb hn60 hq HQ
  go_wp2
  go_loopg [10, 11] n (fun g lv iv wr => W1 = wr ∧ ∃ (X : ByteArray) (i : Nat), g = n - i ∧ lv = .string X ∧ iv = .int .i64 (i : Nat) ∧ Hid (i ≤ n) ∧ Hid (bl X = List.replicate i c))
  case atStart => exact ⟨rfl, ⟨#[]⟩, 0, rfl, rfl, rfl, Lib.hid (Nat.zero_le _), Lib.hid rfl⟩
  case round =>
    obtain ⟨rfl, X, i, hg, rfl, rfl, HI, HX⟩ := hrel
    have HG := Lib.hid hg
    clear hg
    have hXs : X.size = i := by rw [← bl_len, HX.out, List.length_replicate]
    by_cases hlt : i < n
    · have k1 : (i : Int) < (n : Int) := by omega
      have b1 : ¬ 9223372036854775807 < X.size + S.size := by have := HN.out; omega
      have HX2 := Lib.hid (bl_snoc_rep HX.out HSb.out)
      have HI2 := Lib.hid (show i + 1 ≤ n from hlt)
      have HE := Lib.hid (show IntKind.i64.wrap ((i : Int) + 1) = (i : Int) + 1 from IntWalk.i64_in _ (by have := HN.out; omega))
      obtain ⟨zz, hzz⟩ : ∃ zz, X.size = zz := ⟨_, rfl⟩
      clear hXs hlt
      have e1 := HE.out
      go_wp2
      go_roundg (n - (i + 1))
      case measure => rw [HG.out]; have := HI2.out; omega
      case rel => exact ⟨rfl, X ++ S, i + 1, rfl, rfl, by go_num, HI2, HX2⟩
    · have hin : i = n := by have := HI.out; omega
      have f2' : decide ((i : Int) < (n : Int)) = false := decide_eq_false (by omega)
      have f3' : decide (i < n) = false := decide_eq_false hlt
      have HX0 := Lib.hid (show bl X = rowS c n 0 by rw [HX.out, hin]; unfold rowS; simp)
      clear hXs hin hlt
      go_wp2
      go_loopg [10, 12] r (fun g lv iv wr => W1 = wr ∧ ∃ (X : ByteArray) (i : Nat), g = r - i ∧ lv = .string X ∧ iv = .int .i64 (i : Nat) ∧ Hid (i ≤ r) ∧ Hid (bl X = rowS c n i))
      case atStart => exact ⟨rfl, X, 0, rfl, rfl, rfl, Lib.hid (Nat.zero_le _), HX0⟩
      case round =>
        obtain ⟨rfl, X, i, hg, rfl, rfl, HI, HX⟩ := hrel
        have HG := Lib.hid hg
        clear hg
        have hXs : X.size = n + i := by rw [← bl_len, HX.out]; unfold rowS; simp
        by_cases hlt : i < r
        · have k1 : (i : Int) < (r : Int) := by omega
          have b1 : ¬ 9223372036854775807 < X.size + 1 := by have := HN.out; omega
          have HX2 := Lib.hid (bl_snoc_row HX.out)
          have HI2 := Lib.hid (show i + 1 ≤ r from hlt)
          have HE := Lib.hid (show IntKind.i64.wrap ((i : Int) + 1) = (i : Int) + 1 from IntWalk.i64_in _ (by have := HN.out; omega))
          clear hXs hlt
          have e1 := HE.out
          have e4 := HE4.out
          go_wp2
          go_roundg (r - (i + 1))
          case measure => rw [HG.out]; have := HI2.out; omega
          case rel => exact ⟨rfl, X ++ ⟨#[32]⟩, i + 1, rfl, rfl, by go_num, HI2, HX2⟩
        · have hin : i = r := by have := HI.out; omega
          have g2' : decide ((i : Int) < (r : Int)) = false := decide_eq_false (by omega)
          have g3' : decide (i < r) = false := decide_eq_false hlt
          have b1 : ¬ 9223372036854775807 < X.size + 1 := by have := HN.out; omega
          have HXr := Lib.hid (show bl X = rowS c n r by rw [HX.out, hin])
          have HX10 := Lib.hid (show bl (X ++ ⟨#[10]⟩) = rowS c n r ++ [10] by rw [bl_append, HXr.out]; rfl)
          clear hXs hin hlt
          have e4 := HE4.out
          go_upto_region 18 with (first
            | (go_at_call 7; ((with_reducible refine (HRu.out _ _ HXr.out).mono ?_); rintro e w1 ⟨rfl, h1⟩; have HUa := Lib.hid ((HU1.out.trans h1).trans (Up.alloc w1 (.cells #[.int .u8 (c : Nat), .int .i64 (n : Nat), .int .i64 0, .int .i64 0, .int .i64 0, .int .i64 (n : Nat)] 23))); have HA1 := Lib.hid (six_new w1 23 (.int .u8 (c : Nat)) (.int .i64 (n : Nat)) (.int .i64 0) (.int .i64 0) (.int .i64 0) (.int .i64 (n : Nat))); clear h1))
            | (go_at_call 9; ((with_reducible refine (HUn.out _ _ HXr.out).mono ?_); rintro e w2 ⟨rfl, h2⟩; have HA2 := Lib.hid ((HA1.out.up h2).up (Up.alloc w2 (.cells #[.int .u8 (c : Nat), .int .i64 (n : Nat), .int .i64 0, .int .i64 0, .int .i64 0, .int .i64 (n : Nat)] 23))); have HUb := Lib.hid ((HUa.out.trans h2).trans (Up.alloc w2 (.cells #[.int .u8 (c : Nat), .int .i64 (n : Nat), .int .i64 0, .int .i64 0, .int .i64 0, .int .i64 (n : Nat)] 23))); have HB2 := Lib.hid (six_new w2 23 (.int .u8 (c : Nat)) (.int .i64 (n : Nat)) (.int .i64 0) (.int .i64 0) (.int .i64 0) (.int .i64 (n : Nat))); clear h2))
            | (go_at_call 10; ((with_reducible refine (HFe.out _ _ HX10.out).mono ?_); rintro e w3 ⟨rfl, h3⟩; have HA3 := Lib.hid ((HA2.out.up h3).up (Up.alloc w3 (.cells #[.int .u8 0, .int .i64 0, .int .i64 0, .int .i64 0, .int .i64 0, .int .i64 0] 23))); have HB3 := Lib.hid ((HB2.out.up h3).up (Up.alloc w3 (.cells #[.int .u8 0, .int .i64 0, .int .i64 0, .int .i64 0, .int .i64 0, .int .i64 0] 23))); have HUc := Lib.hid ((HUb.out.trans h3).trans (Up.alloc w3 (.cells #[.int .u8 0, .int .i64 0, .int .i64 0, .int .i64 0, .int .i64 0, .int .i64 0] 23))); have HC3 := Lib.hid (six_new w3 23 (.int .u8 0) (.int .i64 0) (.int .i64 0) (.int .i64 0) (.int .i64 0) (.int .i64 0)); clear h3)))
          obtain ⟨W5, hW5⟩ : ∃ W5, w3.alloc (.cells #[.int .u8 0, .int .i64 0, .int .i64 0, .int .i64 0, .int .i64 0, .int .i64 0] 23) = W5 := ⟨_, rfl⟩
          rw [hW5] at HA3 HB3 HC3 HUc ⊢
          clear hW5 b1 e4 g2' g3'
          refine wp_region_held_drew (S := fun w' : World => Six w' w1.heap.size (.int .u8 (c : Nat)) (.int .i64 (n : Nat)) (.int .i64 0) (.int .i64 0) (.int .i64 0) (.int .i64 (n : Nat)) ∧ Six w' w2.heap.size (.int .u8 (c : Nat)) (.int .i64 (n : Nat)) (.int .i64 0) (.int .i64 0) (.int .i64 0) (.int .i64 (n : Nat)) ∧ Six w' w3.heap.size (.int .u8 0) (.int .i64 0) (.int .i64 0) (.int .i64 0) (.int .i64 0) (.int .i64 0)) (by kernel_rfl) ⟨HA3.out.up (Up.drew _), HB3.out.up (Up.drew _), HC3.out.up (Up.drew _)⟩ (fun hSw => ?_)
          first
            | refine wpAnyH_take (i := 0) rfl (by kernel_rfl) (by kernel_rfl) (by kernel_rfl) (fun _ _ _ h => h) (Or.inr ⟨by rfl, rfl⟩) hSw ?_
            | (refine wpAnyH_take (i := 0) (v := ?v0) rfl (by kernel_rfl) (by kernel_rfl) (by kernel_rfl) (fun _ _ _ h => h) (Or.inl ⟨by rfl, ?hy0⟩) hSw ?rest0
               case hy0 =>
                 intro w hw
                 obtain ⟨⟨a0, a1, a2, a3, a4, a5⟩, ⟨b0, b1', b2, b3, b4, b5⟩, ⟨c0, c1, c2, c3, c4, c5⟩⟩ := hw
                 go_simp
                 try with_reducible rfl)
          try simp only [Act.put, List.getElem_toArray, List.getElem_cons_zero, List.getElem_cons_succ, List.setIfInBounds_toArray, List.set_cons_zero, List.set_cons_succ]
          first
            | refine wpAnyH_take (i := 1) rfl (by kernel_rfl) (by kernel_rfl) (by kernel_rfl) (fun _ _ _ h => h) (Or.inr ⟨by rfl, rfl⟩) hSw ?_
            | (refine wpAnyH_take (i := 1) (v := ?v1) rfl (by kernel_rfl) (by kernel_rfl) (by kernel_rfl) (fun _ _ _ h => h) (Or.inl ⟨by rfl, ?hy1⟩) hSw ?rest1
               case hy1 =>
                 intro w hw
                 obtain ⟨⟨a0, a1, a2, a3, a4, a5⟩, ⟨b0, b1', b2, b3, b4, b5⟩, ⟨c0, c1, c2, c3, c4, c5⟩⟩ := hw
                 go_simp
                 try with_reducible rfl)
          try simp only [Act.put, List.getElem_toArray, List.getElem_cons_zero, List.getElem_cons_succ, List.setIfInBounds_toArray, List.set_cons_zero, List.set_cons_succ]
          first
            | refine wpAnyH_take (i := 2) rfl (by kernel_rfl) (by kernel_rfl) (by kernel_rfl) (fun _ _ _ h => h) (Or.inr ⟨by rfl, rfl⟩) hSw ?_
            | (refine wpAnyH_take (i := 2) (v := ?v2) rfl (by kernel_rfl) (by kernel_rfl) (by kernel_rfl) (fun _ _ _ h => h) (Or.inl ⟨by rfl, ?hy2⟩) hSw ?rest2
               case hy2 =>
                 intro w hw
                 obtain ⟨⟨a0, a1, a2, a3, a4, a5⟩, ⟨b0, b1', b2, b3, b4, b5⟩, ⟨c0, c1, c2, c3, c4, c5⟩⟩ := hw
                 go_simp
                 try with_reducible rfl)
          try simp only [Act.put, List.getElem_toArray, List.getElem_cons_zero, List.getElem_cons_succ, List.setIfInBounds_toArray, List.set_cons_zero, List.set_cons_succ]
          first
            | refine wpAnyH_take (i := 3) rfl (by kernel_rfl) (by kernel_rfl) (by kernel_rfl) (fun _ _ _ h => h) (Or.inr ⟨by rfl, rfl⟩) hSw ?_
            | (refine wpAnyH_take (i := 3) (v := ?v3) rfl (by kernel_rfl) (by kernel_rfl) (by kernel_rfl) (fun _ _ _ h => h) (Or.inl ⟨by rfl, ?hy3⟩) hSw ?rest3
               case hy3 =>
                 intro w hw
                 obtain ⟨⟨a0, a1, a2, a3, a4, a5⟩, ⟨b0, b1', b2, b3, b4, b5⟩, ⟨c0, c1, c2, c3, c4, c5⟩⟩ := hw
                 go_simp
                 try with_reducible rfl)
          try simp only [Act.put, List.getElem_toArray, List.getElem_cons_zero, List.getElem_cons_succ, List.setIfInBounds_toArray, List.set_cons_zero, List.set_cons_succ]
          first
            | refine wpAnyH_take (i := 4) rfl (by kernel_rfl) (by kernel_rfl) (by kernel_rfl) (fun _ _ _ h => h) (Or.inr ⟨by rfl, rfl⟩) hSw ?_
            | (refine wpAnyH_take (i := 4) (v := ?v4) rfl (by kernel_rfl) (by kernel_rfl) (by kernel_rfl) (fun _ _ _ h => h) (Or.inl ⟨by rfl, ?hy4⟩) hSw ?rest4
               case hy4 =>
                 intro w hw
                 obtain ⟨⟨a0, a1, a2, a3, a4, a5⟩, ⟨b0, b1', b2, b3, b4, b5⟩, ⟨c0, c1, c2, c3, c4, c5⟩⟩ := hw
                 go_simp
                 try with_reducible rfl)
          try simp only [Act.put, List.getElem_toArray, List.getElem_cons_zero, List.getElem_cons_succ, List.setIfInBounds_toArray, List.set_cons_zero, List.set_cons_succ]
          first
            | refine wpAnyH_take (i := 5) rfl (by kernel_rfl) (by kernel_rfl) (by kernel_rfl) (fun _ _ _ h => h) (Or.inr ⟨by rfl, rfl⟩) hSw ?_
            | (refine wpAnyH_take (i := 5) (v := ?v5) rfl (by kernel_rfl) (by kernel_rfl) (by kernel_rfl) (fun _ _ _ h => h) (Or.inl ⟨by rfl, ?hy5⟩) hSw ?rest5
               case hy5 =>
                 intro w hw
                 obtain ⟨⟨a0, a1, a2, a3, a4, a5⟩, ⟨b0, b1', b2, b3, b4, b5⟩, ⟨c0, c1, c2, c3, c4, c5⟩⟩ := hw
                 go_simp
                 try with_reducible rfl)
          try simp only [Act.put, List.getElem_toArray, List.getElem_cons_zero, List.getElem_cons_succ, List.setIfInBounds_toArray, List.set_cons_zero, List.set_cons_succ]
          first
            | refine wpAnyH_take (i := 6) rfl (by kernel_rfl) (by kernel_rfl) (by kernel_rfl) (fun _ _ _ h => h) (Or.inr ⟨by rfl, rfl⟩) hSw ?_
            | (refine wpAnyH_take (i := 6) (v := ?v6) rfl (by kernel_rfl) (by kernel_rfl) (by kernel_rfl) (fun _ _ _ h => h) (Or.inl ⟨by rfl, ?hy6⟩) hSw ?rest6
               case hy6 =>
                 intro w hw
                 obtain ⟨⟨a0, a1, a2, a3, a4, a5⟩, ⟨b0, b1', b2, b3, b4, b5⟩, ⟨c0, c1, c2, c3, c4, c5⟩⟩ := hw
                 go_simp
                 try with_reducible rfl)
          try simp only [Act.put, List.getElem_toArray, List.getElem_cons_zero, List.getElem_cons_succ, List.setIfInBounds_toArray, List.set_cons_zero, List.set_cons_succ]
          first
            | refine wpAnyH_take (i := 7) rfl (by kernel_rfl) (by kernel_rfl) (by kernel_rfl) (fun _ _ _ h => h) (Or.inr ⟨by rfl, rfl⟩) hSw ?_
            | (refine wpAnyH_take (i := 7) (v := ?v7) rfl (by kernel_rfl) (by kernel_rfl) (by kernel_rfl) (fun _ _ _ h => h) (Or.inl ⟨by rfl, ?hy7⟩) hSw ?rest7
               case hy7 =>
                 intro w hw
                 obtain ⟨⟨a0, a1, a2, a3, a4, a5⟩, ⟨b0, b1', b2, b3, b4, b5⟩, ⟨c0, c1, c2, c3, c4, c5⟩⟩ := hw
                 go_simp
                 try with_reducible rfl)
          try simp only [Act.put, List.getElem_toArray, List.getElem_cons_zero, List.getElem_cons_succ, List.setIfInBounds_toArray, List.set_cons_zero, List.set_cons_succ]
          first
            | refine wpAnyH_take (i := 8) rfl (by kernel_rfl) (by kernel_rfl) (by kernel_rfl) (fun _ _ _ h => h) (Or.inr ⟨by rfl, rfl⟩) hSw ?_
            | (refine wpAnyH_take (i := 8) (v := ?v8) rfl (by kernel_rfl) (by kernel_rfl) (by kernel_rfl) (fun _ _ _ h => h) (Or.inl ⟨by rfl, ?hy8⟩) hSw ?rest8
               case hy8 =>
                 intro w hw
                 obtain ⟨⟨a0, a1, a2, a3, a4, a5⟩, ⟨b0, b1', b2, b3, b4, b5⟩, ⟨c0, c1, c2, c3, c4, c5⟩⟩ := hw
                 go_simp
                 try with_reducible rfl)
          try simp only [Act.put, List.getElem_toArray, List.getElem_cons_zero, List.getElem_cons_succ, List.setIfInBounds_toArray, List.set_cons_zero, List.set_cons_succ]
          first
            | refine wpAnyH_take (i := 9) rfl (by kernel_rfl) (by kernel_rfl) (by kernel_rfl) (fun _ _ _ h => h) (Or.inr ⟨by rfl, rfl⟩) hSw ?_
            | (refine wpAnyH_take (i := 9) (v := ?v9) rfl (by kernel_rfl) (by kernel_rfl) (by kernel_rfl) (fun _ _ _ h => h) (Or.inl ⟨by rfl, ?hy9⟩) hSw ?rest9
               case hy9 =>
                 intro w hw
                 obtain ⟨⟨a0, a1, a2, a3, a4, a5⟩, ⟨b0, b1', b2, b3, b4, b5⟩, ⟨c0, c1, c2, c3, c4, c5⟩⟩ := hw
                 go_simp
                 try with_reducible rfl)
          try simp only [Act.put, List.getElem_toArray, List.getElem_cons_zero, List.getElem_cons_succ, List.setIfInBounds_toArray, List.set_cons_zero, List.set_cons_succ]
          first
            | refine wpAnyH_take (i := 10) rfl (by kernel_rfl) (by kernel_rfl) (by kernel_rfl) (fun _ _ _ h => h) (Or.inr ⟨by rfl, rfl⟩) hSw ?_
            | (refine wpAnyH_take (i := 10) (v := ?v10) rfl (by kernel_rfl) (by kernel_rfl) (by kernel_rfl) (fun _ _ _ h => h) (Or.inl ⟨by rfl, ?hy10⟩) hSw ?rest10
               case hy10 =>
                 intro w hw
                 obtain ⟨⟨a0, a1, a2, a3, a4, a5⟩, ⟨b0, b1', b2, b3, b4, b5⟩, ⟨c0, c1, c2, c3, c4, c5⟩⟩ := hw
                 go_simp
                 try with_reducible rfl)
          try simp only [Act.put, List.getElem_toArray, List.getElem_cons_zero, List.getElem_cons_succ, List.setIfInBounds_toArray, List.set_cons_zero, List.set_cons_succ]
          first
            | refine wpAnyH_take (i := 11) rfl (by kernel_rfl) (by kernel_rfl) (by kernel_rfl) (fun _ _ _ h => h) (Or.inr ⟨by rfl, rfl⟩) hSw ?_
            | (refine wpAnyH_take (i := 11) (v := ?v11) rfl (by kernel_rfl) (by kernel_rfl) (by kernel_rfl) (fun _ _ _ h => h) (Or.inl ⟨by rfl, ?hy11⟩) hSw ?rest11
               case hy11 =>
                 intro w hw
                 obtain ⟨⟨a0, a1, a2, a3, a4, a5⟩, ⟨b0, b1', b2, b3, b4, b5⟩, ⟨c0, c1, c2, c3, c4, c5⟩⟩ := hw
                 go_simp
                 try with_reducible rfl)
          try simp only [Act.put, List.getElem_toArray, List.getElem_cons_zero, List.getElem_cons_succ, List.setIfInBounds_toArray, List.set_cons_zero, List.set_cons_succ]
          first
            | refine wpAnyH_take (i := 12) rfl (by kernel_rfl) (by kernel_rfl) (by kernel_rfl) (fun _ _ _ h => h) (Or.inr ⟨by rfl, rfl⟩) hSw ?_
            | (refine wpAnyH_take (i := 12) (v := ?v12) rfl (by kernel_rfl) (by kernel_rfl) (by kernel_rfl) (fun _ _ _ h => h) (Or.inl ⟨by rfl, ?hy12⟩) hSw ?rest12
               case hy12 =>
                 intro w hw
                 obtain ⟨⟨a0, a1, a2, a3, a4, a5⟩, ⟨b0, b1', b2, b3, b4, b5⟩, ⟨c0, c1, c2, c3, c4, c5⟩⟩ := hw
                 go_simp
                 try with_reducible rfl)
          try simp only [Act.put, List.getElem_toArray, List.getElem_cons_zero, List.getElem_cons_succ, List.setIfInBounds_toArray, List.set_cons_zero, List.set_cons_succ]
          first
            | refine wpAnyH_take (i := 13) rfl (by kernel_rfl) (by kernel_rfl) (by kernel_rfl) (fun _ _ _ h => h) (Or.inr ⟨by rfl, rfl⟩) hSw ?_
            | (refine wpAnyH_take (i := 13) (v := ?v13) rfl (by kernel_rfl) (by kernel_rfl) (by kernel_rfl) (fun _ _ _ h => h) (Or.inl ⟨by rfl, ?hy13⟩) hSw ?rest13
               case hy13 =>
                 intro w hw
                 obtain ⟨⟨a0, a1, a2, a3, a4, a5⟩, ⟨b0, b1', b2, b3, b4, b5⟩, ⟨c0, c1, c2, c3, c4, c5⟩⟩ := hw
                 go_simp
                 try with_reducible rfl)
          try simp only [Act.put, List.getElem_toArray, List.getElem_cons_zero, List.getElem_cons_succ, List.setIfInBounds_toArray, List.set_cons_zero, List.set_cons_succ]
          first
            | refine wpAnyH_take (i := 14) rfl (by kernel_rfl) (by kernel_rfl) (by kernel_rfl) (fun _ _ _ h => h) (Or.inr ⟨by rfl, rfl⟩) hSw ?_
            | (refine wpAnyH_take (i := 14) (v := ?v14) rfl (by kernel_rfl) (by kernel_rfl) (by kernel_rfl) (fun _ _ _ h => h) (Or.inl ⟨by rfl, ?hy14⟩) hSw ?rest14
               case hy14 =>
                 intro w hw
                 obtain ⟨⟨a0, a1, a2, a3, a4, a5⟩, ⟨b0, b1', b2, b3, b4, b5⟩, ⟨c0, c1, c2, c3, c4, c5⟩⟩ := hw
                 go_simp
                 try with_reducible rfl)
          try simp only [Act.put, List.getElem_toArray, List.getElem_cons_zero, List.getElem_cons_succ, List.setIfInBounds_toArray, List.set_cons_zero, List.set_cons_succ]
          first
            | refine wpAnyH_take (i := 15) rfl (by kernel_rfl) (by kernel_rfl) (by kernel_rfl) (fun _ _ _ h => h) (Or.inr ⟨by rfl, rfl⟩) hSw ?_
            | (refine wpAnyH_take (i := 15) (v := ?v15) rfl (by kernel_rfl) (by kernel_rfl) (by kernel_rfl) (fun _ _ _ h => h) (Or.inl ⟨by rfl, ?hy15⟩) hSw ?rest15
               case hy15 =>
                 intro w hw
                 obtain ⟨⟨a0, a1, a2, a3, a4, a5⟩, ⟨b0, b1', b2, b3, b4, b5⟩, ⟨c0, c1, c2, c3, c4, c5⟩⟩ := hw
                 go_simp
                 try with_reducible rfl)
          try simp only [Act.put, List.getElem_toArray, List.getElem_cons_zero, List.getElem_cons_succ, List.setIfInBounds_toArray, List.set_cons_zero, List.set_cons_succ]
          first
            | refine wpAnyH_take (i := 16) rfl (by kernel_rfl) (by kernel_rfl) (by kernel_rfl) (fun _ _ _ h => h) (Or.inr ⟨by rfl, rfl⟩) hSw ?_
            | (refine wpAnyH_take (i := 16) (v := ?v16) rfl (by kernel_rfl) (by kernel_rfl) (by kernel_rfl) (fun _ _ _ h => h) (Or.inl ⟨by rfl, ?hy16⟩) hSw ?rest16
               case hy16 =>
                 intro w hw
                 obtain ⟨⟨a0, a1, a2, a3, a4, a5⟩, ⟨b0, b1', b2, b3, b4, b5⟩, ⟨c0, c1, c2, c3, c4, c5⟩⟩ := hw
                 go_simp
                 try with_reducible rfl)
          try simp only [Act.put, List.getElem_toArray, List.getElem_cons_zero, List.getElem_cons_succ, List.setIfInBounds_toArray, List.set_cons_zero, List.set_cons_succ]
          first
            | refine wpAnyH_take (i := 17) rfl (by kernel_rfl) (by kernel_rfl) (by kernel_rfl) (fun _ _ _ h => h) (Or.inr ⟨by rfl, rfl⟩) hSw ?_
            | (refine wpAnyH_take (i := 17) (v := ?v17) rfl (by kernel_rfl) (by kernel_rfl) (by kernel_rfl) (fun _ _ _ h => h) (Or.inl ⟨by rfl, ?hy17⟩) hSw ?rest17
               case hy17 =>
                 intro w hw
                 obtain ⟨⟨a0, a1, a2, a3, a4, a5⟩, ⟨b0, b1', b2, b3, b4, b5⟩, ⟨c0, c1, c2, c3, c4, c5⟩⟩ := hw
                 go_simp
                 try with_reducible rfl)
          try simp only [Act.put, List.getElem_toArray, List.getElem_cons_zero, List.getElem_cons_succ, List.setIfInBounds_toArray, List.set_cons_zero, List.set_cons_succ]
          first
            | refine wpAnyH_take (i := 18) rfl (by kernel_rfl) (by kernel_rfl) (by kernel_rfl) (fun _ _ _ h => h) (Or.inr ⟨by rfl, rfl⟩) hSw ?_
            | (refine wpAnyH_take (i := 18) (v := ?v18) rfl (by kernel_rfl) (by kernel_rfl) (by kernel_rfl) (fun _ _ _ h => h) (Or.inl ⟨by rfl, ?hy18⟩) hSw ?rest18
               case hy18 =>
                 intro w hw
                 obtain ⟨⟨a0, a1, a2, a3, a4, a5⟩, ⟨b0, b1', b2, b3, b4, b5⟩, ⟨c0, c1, c2, c3, c4, c5⟩⟩ := hw
                 go_simp
                 try with_reducible rfl)
          try simp only [Act.put, List.getElem_toArray, List.getElem_cons_zero, List.getElem_cons_succ, List.setIfInBounds_toArray, List.set_cons_zero, List.set_cons_succ]
          first
            | refine wpAnyH_take (i := 19) rfl (by kernel_rfl) (by kernel_rfl) (by kernel_rfl) (fun _ _ _ h => h) (Or.inr ⟨by rfl, rfl⟩) hSw ?_
            | (refine wpAnyH_take (i := 19) (v := ?v19) rfl (by kernel_rfl) (by kernel_rfl) (by kernel_rfl) (fun _ _ _ h => h) (Or.inl ⟨by rfl, ?hy19⟩) hSw ?rest19
               case hy19 =>
                 intro w hw
                 obtain ⟨⟨a0, a1, a2, a3, a4, a5⟩, ⟨b0, b1', b2, b3, b4, b5⟩, ⟨c0, c1, c2, c3, c4, c5⟩⟩ := hw
                 go_simp
                 try with_reducible rfl)
          try simp only [Act.put, List.getElem_toArray, List.getElem_cons_zero, List.getElem_cons_succ, List.setIfInBounds_toArray, List.set_cons_zero, List.set_cons_succ]
          first
            | refine wpAnyH_take (i := 20) rfl (by kernel_rfl) (by kernel_rfl) (by kernel_rfl) (fun _ _ _ h => h) (Or.inr ⟨by rfl, rfl⟩) hSw ?_
            | (refine wpAnyH_take (i := 20) (v := ?v20) rfl (by kernel_rfl) (by kernel_rfl) (by kernel_rfl) (fun _ _ _ h => h) (Or.inl ⟨by rfl, ?hy20⟩) hSw ?rest20
               case hy20 =>
                 intro w hw
                 obtain ⟨⟨a0, a1, a2, a3, a4, a5⟩, ⟨b0, b1', b2, b3, b4, b5⟩, ⟨c0, c1, c2, c3, c4, c5⟩⟩ := hw
                 go_simp
                 try with_reducible rfl)
          try simp only [Act.put, List.getElem_toArray, List.getElem_cons_zero, List.getElem_cons_succ, List.setIfInBounds_toArray, List.set_cons_zero, List.set_cons_succ]
          first
            | refine wpAnyH_take (i := 21) rfl (by kernel_rfl) (by kernel_rfl) (by kernel_rfl) (fun _ _ _ h => h) (Or.inr ⟨by rfl, rfl⟩) hSw ?_
            | (refine wpAnyH_take (i := 21) (v := ?v21) rfl (by kernel_rfl) (by kernel_rfl) (by kernel_rfl) (fun _ _ _ h => h) (Or.inl ⟨by rfl, ?hy21⟩) hSw ?rest21
               case hy21 =>
                 intro w hw
                 obtain ⟨⟨a0, a1, a2, a3, a4, a5⟩, ⟨b0, b1', b2, b3, b4, b5⟩, ⟨c0, c1, c2, c3, c4, c5⟩⟩ := hw
                 go_simp
                 try with_reducible rfl)
          try simp only [Act.put, List.getElem_toArray, List.getElem_cons_zero, List.getElem_cons_succ, List.setIfInBounds_toArray, List.set_cons_zero, List.set_cons_succ]
          first
            | refine wpAnyH_take (i := 22) rfl (by kernel_rfl) (by kernel_rfl) (by kernel_rfl) (fun _ _ _ h => h) (Or.inr ⟨by rfl, rfl⟩) hSw ?_
            | (refine wpAnyH_take (i := 22) (v := ?v22) rfl (by kernel_rfl) (by kernel_rfl) (by kernel_rfl) (fun _ _ _ h => h) (Or.inl ⟨by rfl, ?hy22⟩) hSw ?rest22
               case hy22 =>
                 intro w hw
                 obtain ⟨⟨a0, a1, a2, a3, a4, a5⟩, ⟨b0, b1', b2, b3, b4, b5⟩, ⟨c0, c1, c2, c3, c4, c5⟩⟩ := hw
                 go_simp
                 try with_reducible rfl)
          try simp only [Act.put, List.getElem_toArray, List.getElem_cons_zero, List.getElem_cons_succ, List.setIfInBounds_toArray, List.set_cons_zero, List.set_cons_succ]
          first
            | refine wpAnyH_take (i := 23) rfl (by kernel_rfl) (by kernel_rfl) (by kernel_rfl) (fun _ _ _ h => h) (Or.inr ⟨by rfl, rfl⟩) hSw ?_
            | (refine wpAnyH_take (i := 23) (v := ?v23) rfl (by kernel_rfl) (by kernel_rfl) (by kernel_rfl) (fun _ _ _ h => h) (Or.inl ⟨by rfl, ?hy23⟩) hSw ?rest23
               case hy23 =>
                 intro w hw
                 obtain ⟨⟨a0, a1, a2, a3, a4, a5⟩, ⟨b0, b1', b2, b3, b4, b5⟩, ⟨c0, c1, c2, c3, c4, c5⟩⟩ := hw
                 go_simp
                 try with_reducible rfl)
          try simp only [Act.put, List.getElem_toArray, List.getElem_cons_zero, List.getElem_cons_succ, List.setIfInBounds_toArray, List.set_cons_zero, List.set_cons_succ]
          first
            | refine wpAnyH_take (i := 24) rfl (by kernel_rfl) (by kernel_rfl) (by kernel_rfl) (fun _ _ _ h => h) (Or.inr ⟨by rfl, rfl⟩) hSw ?_
            | (refine wpAnyH_take (i := 24) (v := ?v24) rfl (by kernel_rfl) (by kernel_rfl) (by kernel_rfl) (fun _ _ _ h => h) (Or.inl ⟨by rfl, ?hy24⟩) hSw ?rest24
               case hy24 =>
                 intro w hw
                 obtain ⟨⟨a0, a1, a2, a3, a4, a5⟩, ⟨b0, b1', b2, b3, b4, b5⟩, ⟨c0, c1, c2, c3, c4, c5⟩⟩ := hw
                 go_simp
                 try with_reducible rfl)
          try simp only [Act.put, List.getElem_toArray, List.getElem_cons_zero, List.getElem_cons_succ, List.setIfInBounds_toArray, List.set_cons_zero, List.set_cons_succ]
          first
            | refine wpAnyH_take (i := 25) rfl (by kernel_rfl) (by kernel_rfl) (by kernel_rfl) (fun _ _ _ h => h) (Or.inr ⟨by rfl, rfl⟩) hSw ?_
            | (refine wpAnyH_take (i := 25) (v := ?v25) rfl (by kernel_rfl) (by kernel_rfl) (by kernel_rfl) (fun _ _ _ h => h) (Or.inl ⟨by rfl, ?hy25⟩) hSw ?rest25
               case hy25 =>
                 intro w hw
                 obtain ⟨⟨a0, a1, a2, a3, a4, a5⟩, ⟨b0, b1', b2, b3, b4, b5⟩, ⟨c0, c1, c2, c3, c4, c5⟩⟩ := hw
                 go_simp
                 try with_reducible rfl)
          try simp only [Act.put, List.getElem_toArray, List.getElem_cons_zero, List.getElem_cons_succ, List.setIfInBounds_toArray, List.set_cons_zero, List.set_cons_succ]
          first
            | refine wpAnyH_take (i := 26) rfl (by kernel_rfl) (by kernel_rfl) (by kernel_rfl) (fun _ _ _ h => h) (Or.inr ⟨by rfl, rfl⟩) hSw ?_
            | (refine wpAnyH_take (i := 26) (v := ?v26) rfl (by kernel_rfl) (by kernel_rfl) (by kernel_rfl) (fun _ _ _ h => h) (Or.inl ⟨by rfl, ?hy26⟩) hSw ?rest26
               case hy26 =>
                 intro w hw
                 obtain ⟨⟨a0, a1, a2, a3, a4, a5⟩, ⟨b0, b1', b2, b3, b4, b5⟩, ⟨c0, c1, c2, c3, c4, c5⟩⟩ := hw
                 go_simp
                 try with_reducible rfl)
          try simp only [Act.put, List.getElem_toArray, List.getElem_cons_zero, List.getElem_cons_succ, List.setIfInBounds_toArray, List.set_cons_zero, List.set_cons_succ]
          first
            | refine wpAnyH_take (i := 27) rfl (by kernel_rfl) (by kernel_rfl) (by kernel_rfl) (fun _ _ _ h => h) (Or.inr ⟨by rfl, rfl⟩) hSw ?_
            | (refine wpAnyH_take (i := 27) (v := ?v27) rfl (by kernel_rfl) (by kernel_rfl) (by kernel_rfl) (fun _ _ _ h => h) (Or.inl ⟨by rfl, ?hy27⟩) hSw ?rest27
               case hy27 =>
                 intro w hw
                 obtain ⟨⟨a0, a1, a2, a3, a4, a5⟩, ⟨b0, b1', b2, b3, b4, b5⟩, ⟨c0, c1, c2, c3, c4, c5⟩⟩ := hw
                 go_simp
                 try with_reducible rfl)
          try simp only [Act.put, List.getElem_toArray, List.getElem_cons_zero, List.getElem_cons_succ, List.setIfInBounds_toArray, List.set_cons_zero, List.set_cons_succ]
          first
            | refine wpAnyH_take (i := 28) rfl (by kernel_rfl) (by kernel_rfl) (by kernel_rfl) (fun _ _ _ h => h) (Or.inr ⟨by rfl, rfl⟩) hSw ?_
            | (refine wpAnyH_take (i := 28) (v := ?v28) rfl (by kernel_rfl) (by kernel_rfl) (by kernel_rfl) (fun _ _ _ h => h) (Or.inl ⟨by rfl, ?hy28⟩) hSw ?rest28
               case hy28 =>
                 intro w hw
                 obtain ⟨⟨a0, a1, a2, a3, a4, a5⟩, ⟨b0, b1', b2, b3, b4, b5⟩, ⟨c0, c1, c2, c3, c4, c5⟩⟩ := hw
                 go_simp
                 try with_reducible rfl)
          try simp only [Act.put, List.getElem_toArray, List.getElem_cons_zero, List.getElem_cons_succ, List.setIfInBounds_toArray, List.set_cons_zero, List.set_cons_succ]
          first
            | refine wpAnyH_take (i := 29) rfl (by kernel_rfl) (by kernel_rfl) (by kernel_rfl) (fun _ _ _ h => h) (Or.inr ⟨by rfl, rfl⟩) hSw ?_
            | (refine wpAnyH_take (i := 29) (v := ?v29) rfl (by kernel_rfl) (by kernel_rfl) (by kernel_rfl) (fun _ _ _ h => h) (Or.inl ⟨by rfl, ?hy29⟩) hSw ?rest29
               case hy29 =>
                 intro w hw
                 obtain ⟨⟨a0, a1, a2, a3, a4, a5⟩, ⟨b0, b1', b2, b3, b4, b5⟩, ⟨c0, c1, c2, c3, c4, c5⟩⟩ := hw
                 go_simp
                 try with_reducible rfl)
          try simp only [Act.put, List.getElem_toArray, List.getElem_cons_zero, List.getElem_cons_succ, List.setIfInBounds_toArray, List.set_cons_zero, List.set_cons_succ]
          first
            | refine wpAnyH_take (i := 30) rfl (by kernel_rfl) (by kernel_rfl) (by kernel_rfl) (fun _ _ _ h => h) (Or.inr ⟨by rfl, rfl⟩) hSw ?_
            | (refine wpAnyH_take (i := 30) (v := ?v30) rfl (by kernel_rfl) (by kernel_rfl) (by kernel_rfl) (fun _ _ _ h => h) (Or.inl ⟨by rfl, ?hy30⟩) hSw ?rest30
               case hy30 =>
                 intro w hw
                 obtain ⟨⟨a0, a1, a2, a3, a4, a5⟩, ⟨b0, b1', b2, b3, b4, b5⟩, ⟨c0, c1, c2, c3, c4, c5⟩⟩ := hw
                 go_simp
                 try with_reducible rfl)
          try simp only [Act.put, List.getElem_toArray, List.getElem_cons_zero, List.getElem_cons_succ, List.setIfInBounds_toArray, List.set_cons_zero, List.set_cons_succ]
          first
            | refine wpAnyH_take (i := 31) rfl (by kernel_rfl) (by kernel_rfl) (by kernel_rfl) (fun _ _ _ h => h) (Or.inr ⟨by rfl, rfl⟩) hSw ?_
            | (refine wpAnyH_take (i := 31) (v := ?v31) rfl (by kernel_rfl) (by kernel_rfl) (by kernel_rfl) (fun _ _ _ h => h) (Or.inl ⟨by rfl, ?hy31⟩) hSw ?rest31
               case hy31 =>
                 intro w hw
                 obtain ⟨⟨a0, a1, a2, a3, a4, a5⟩, ⟨b0, b1', b2, b3, b4, b5⟩, ⟨c0, c1, c2, c3, c4, c5⟩⟩ := hw
                 go_simp
                 try with_reducible rfl)
          try simp only [Act.put, List.getElem_toArray, List.getElem_cons_zero, List.getElem_cons_succ, List.setIfInBounds_toArray, List.set_cons_zero, List.set_cons_succ]
          first
            | refine wpAnyH_take (i := 32) rfl (by kernel_rfl) (by kernel_rfl) (by kernel_rfl) (fun _ _ _ h => h) (Or.inr ⟨by rfl, rfl⟩) hSw ?_
            | (refine wpAnyH_take (i := 32) (v := ?v32) rfl (by kernel_rfl) (by kernel_rfl) (by kernel_rfl) (fun _ _ _ h => h) (Or.inl ⟨by rfl, ?hy32⟩) hSw ?rest32
               case hy32 =>
                 intro w hw
                 obtain ⟨⟨a0, a1, a2, a3, a4, a5⟩, ⟨b0, b1', b2, b3, b4, b5⟩, ⟨c0, c1, c2, c3, c4, c5⟩⟩ := hw
                 go_simp
                 try with_reducible rfl)
          try simp only [Act.put, List.getElem_toArray, List.getElem_cons_zero, List.getElem_cons_succ, List.setIfInBounds_toArray, List.set_cons_zero, List.set_cons_succ]
          first
            | refine wpAnyH_take (i := 33) rfl (by kernel_rfl) (by kernel_rfl) (by kernel_rfl) (fun _ _ _ h => h) (Or.inr ⟨by rfl, rfl⟩) hSw ?_
            | (refine wpAnyH_take (i := 33) (v := ?v33) rfl (by kernel_rfl) (by kernel_rfl) (by kernel_rfl) (fun _ _ _ h => h) (Or.inl ⟨by rfl, ?hy33⟩) hSw ?rest33
               case hy33 =>
                 intro w hw
                 obtain ⟨⟨a0, a1, a2, a3, a4, a5⟩, ⟨b0, b1', b2, b3, b4, b5⟩, ⟨c0, c1, c2, c3, c4, c5⟩⟩ := hw
                 go_simp
                 try with_reducible rfl)
          try simp only [Act.put, List.getElem_toArray, List.getElem_cons_zero, List.getElem_cons_succ, List.setIfInBounds_toArray, List.set_cons_zero, List.set_cons_succ]
          first
            | refine wpAnyH_take (i := 34) rfl (by kernel_rfl) (by kernel_rfl) (by kernel_rfl) (fun _ _ _ h => h) (Or.inr ⟨by rfl, rfl⟩) hSw ?_
            | (refine wpAnyH_take (i := 34) (v := ?v34) rfl (by kernel_rfl) (by kernel_rfl) (by kernel_rfl) (fun _ _ _ h => h) (Or.inl ⟨by rfl, ?hy34⟩) hSw ?rest34
               case hy34 =>
                 intro w hw
                 obtain ⟨⟨a0, a1, a2, a3, a4, a5⟩, ⟨b0, b1', b2, b3, b4, b5⟩, ⟨c0, c1, c2, c3, c4, c5⟩⟩ := hw
                 go_simp
                 try with_reducible rfl)
          try simp only [Act.put, List.getElem_toArray, List.getElem_cons_zero, List.getElem_cons_succ, List.setIfInBounds_toArray, List.set_cons_zero, List.set_cons_succ]
          first
            | refine wpAnyH_take (i := 35) rfl (by kernel_rfl) (by kernel_rfl) (by kernel_rfl) (fun _ _ _ h => h) (Or.inr ⟨by rfl, rfl⟩) hSw ?_
            | (refine wpAnyH_take (i := 35) (v := ?v35) rfl (by kernel_rfl) (by kernel_rfl) (by kernel_rfl) (fun _ _ _ h => h) (Or.inl ⟨by rfl, ?hy35⟩) hSw ?rest35
               case hy35 =>
                 intro w hw
                 obtain ⟨⟨a0, a1, a2, a3, a4, a5⟩, ⟨b0, b1', b2, b3, b4, b5⟩, ⟨c0, c1, c2, c3, c4, c5⟩⟩ := hw
                 go_simp
                 try with_reducible rfl)
          try simp only [Act.put, List.getElem_toArray, List.getElem_cons_zero, List.getElem_cons_succ, List.setIfInBounds_toArray, List.set_cons_zero, List.set_cons_succ]
          first
            | refine wpAnyH_take (i := 36) rfl (by kernel_rfl) (by kernel_rfl) (by kernel_rfl) (fun _ _ _ h => h) (Or.inr ⟨by rfl, rfl⟩) hSw ?_
            | (refine wpAnyH_take (i := 36) (v := ?v36) rfl (by kernel_rfl) (by kernel_rfl) (by kernel_rfl) (fun _ _ _ h => h) (Or.inl ⟨by rfl, ?hy36⟩) hSw ?rest36
               case hy36 =>
                 intro w hw
                 obtain ⟨⟨a0, a1, a2, a3, a4, a5⟩, ⟨b0, b1', b2, b3, b4, b5⟩, ⟨c0, c1, c2, c3, c4, c5⟩⟩ := hw
                 go_simp
                 try with_reducible rfl)
          try simp only [Act.put, List.getElem_toArray, List.getElem_cons_zero, List.getElem_cons_succ, List.setIfInBounds_toArray, List.set_cons_zero, List.set_cons_succ]
          first
            | refine wpAnyH_take (i := 37) rfl (by kernel_rfl) (by kernel_rfl) (by kernel_rfl) (fun _ _ _ h => h) (Or.inr ⟨by rfl, rfl⟩) hSw ?_
            | (refine wpAnyH_take (i := 37) (v := ?v37) rfl (by kernel_rfl) (by kernel_rfl) (by kernel_rfl) (fun _ _ _ h => h) (Or.inl ⟨by rfl, ?hy37⟩) hSw ?rest37
               case hy37 =>
                 intro w hw
                 obtain ⟨⟨a0, a1, a2, a3, a4, a5⟩, ⟨b0, b1', b2, b3, b4, b5⟩, ⟨c0, c1, c2, c3, c4, c5⟩⟩ := hw
                 go_simp
                 try with_reducible rfl)
          try simp only [Act.put, List.getElem_toArray, List.getElem_cons_zero, List.getElem_cons_succ, List.setIfInBounds_toArray, List.set_cons_zero, List.set_cons_succ]
          first
            | refine wpAnyH_take (i := 38) rfl (by kernel_rfl) (by kernel_rfl) (by kernel_rfl) (fun _ _ _ h => h) (Or.inr ⟨by rfl, rfl⟩) hSw ?_
            | (refine wpAnyH_take (i := 38) (v := ?v38) rfl (by kernel_rfl) (by kernel_rfl) (by kernel_rfl) (fun _ _ _ h => h) (Or.inl ⟨by rfl, ?hy38⟩) hSw ?rest38
               case hy38 =>
                 intro w hw
                 obtain ⟨⟨a0, a1, a2, a3, a4, a5⟩, ⟨b0, b1', b2, b3, b4, b5⟩, ⟨c0, c1, c2, c3, c4, c5⟩⟩ := hw
                 go_simp
                 try with_reducible rfl)
          try simp only [Act.put, List.getElem_toArray, List.getElem_cons_zero, List.getElem_cons_succ, List.setIfInBounds_toArray, List.set_cons_zero, List.set_cons_succ]
          first
            | refine wpAnyH_take (i := 39) rfl (by kernel_rfl) (by kernel_rfl) (by kernel_rfl) (fun _ _ _ h => h) (Or.inr ⟨by rfl, rfl⟩) hSw ?_
            | (refine wpAnyH_take (i := 39) (v := ?v39) rfl (by kernel_rfl) (by kernel_rfl) (by kernel_rfl) (fun _ _ _ h => h) (Or.inl ⟨by rfl, ?hy39⟩) hSw ?rest39
               case hy39 =>
                 intro w hw
                 obtain ⟨⟨a0, a1, a2, a3, a4, a5⟩, ⟨b0, b1', b2, b3, b4, b5⟩, ⟨c0, c1, c2, c3, c4, c5⟩⟩ := hw
                 go_simp
                 try with_reducible rfl)
          try simp only [Act.put, List.getElem_toArray, List.getElem_cons_zero, List.getElem_cons_succ, List.setIfInBounds_toArray, List.set_cons_zero, List.set_cons_succ]
          first
            | refine wpAnyH_take (i := 40) rfl (by kernel_rfl) (by kernel_rfl) (by kernel_rfl) (fun _ _ _ h => h) (Or.inr ⟨by rfl, rfl⟩) hSw ?_
            | (refine wpAnyH_take (i := 40) (v := ?v40) rfl (by kernel_rfl) (by kernel_rfl) (by kernel_rfl) (fun _ _ _ h => h) (Or.inl ⟨by rfl, ?hy40⟩) hSw ?rest40
               case hy40 =>
                 intro w hw
                 obtain ⟨⟨a0, a1, a2, a3, a4, a5⟩, ⟨b0, b1', b2, b3, b4, b5⟩, ⟨c0, c1, c2, c3, c4, c5⟩⟩ := hw
                 go_simp
                 try with_reducible rfl)
          try simp only [Act.put, List.getElem_toArray, List.getElem_cons_zero, List.getElem_cons_succ, List.setIfInBounds_toArray, List.set_cons_zero, List.set_cons_succ]
          first
            | refine wpAnyH_take (i := 41) rfl (by kernel_rfl) (by kernel_rfl) (by kernel_rfl) (fun _ _ _ h => h) (Or.inr ⟨by rfl, rfl⟩) hSw ?_
            | (refine wpAnyH_take (i := 41) (v := ?v41) rfl (by kernel_rfl) (by kernel_rfl) (by kernel_rfl) (fun _ _ _ h => h) (Or.inl ⟨by rfl, ?hy41⟩) hSw ?rest41
               case hy41 =>
                 intro w hw
                 obtain ⟨⟨a0, a1, a2, a3, a4, a5⟩, ⟨b0, b1', b2, b3, b4, b5⟩, ⟨c0, c1, c2, c3, c4, c5⟩⟩ := hw
                 go_simp
                 try with_reducible rfl)
          try simp only [Act.put, List.getElem_toArray, List.getElem_cons_zero, List.getElem_cons_succ, List.setIfInBounds_toArray, List.set_cons_zero, List.set_cons_succ]
          first
            | refine wpAnyH_take (i := 42) rfl (by kernel_rfl) (by kernel_rfl) (by kernel_rfl) (fun _ _ _ h => h) (Or.inr ⟨by rfl, rfl⟩) hSw ?_
            | (refine wpAnyH_take (i := 42) (v := ?v42) rfl (by kernel_rfl) (by kernel_rfl) (by kernel_rfl) (fun _ _ _ h => h) (Or.inl ⟨by rfl, ?hy42⟩) hSw ?rest42
               case hy42 =>
                 intro w hw
                 obtain ⟨⟨a0, a1, a2, a3, a4, a5⟩, ⟨b0, b1', b2, b3, b4, b5⟩, ⟨c0, c1, c2, c3, c4, c5⟩⟩ := hw
                 go_simp
                 try with_reducible rfl)
          try simp only [Act.put, List.getElem_toArray, List.getElem_cons_zero, List.getElem_cons_succ, List.setIfInBounds_toArray, List.set_cons_zero, List.set_cons_succ]
          first
            | refine wpAnyH_take (i := 43) rfl (by kernel_rfl) (by kernel_rfl) (by kernel_rfl) (fun _ _ _ h => h) (Or.inr ⟨by rfl, rfl⟩) hSw ?_
            | (refine wpAnyH_take (i := 43) (v := ?v43) rfl (by kernel_rfl) (by kernel_rfl) (by kernel_rfl) (fun _ _ _ h => h) (Or.inl ⟨by rfl, ?hy43⟩) hSw ?rest43
               case hy43 =>
                 intro w hw
                 obtain ⟨⟨a0, a1, a2, a3, a4, a5⟩, ⟨b0, b1', b2, b3, b4, b5⟩, ⟨c0, c1, c2, c3, c4, c5⟩⟩ := hw
                 go_simp
                 try with_reducible rfl)
          try simp only [Act.put, List.getElem_toArray, List.getElem_cons_zero, List.getElem_cons_succ, List.setIfInBounds_toArray, List.set_cons_zero, List.set_cons_succ]
          first
            | refine wpAnyH_take (i := 44) rfl (by kernel_rfl) (by kernel_rfl) (by kernel_rfl) (fun _ _ _ h => h) (Or.inr ⟨by rfl, rfl⟩) hSw ?_
            | (refine wpAnyH_take (i := 44) (v := ?v44) rfl (by kernel_rfl) (by kernel_rfl) (by kernel_rfl) (fun _ _ _ h => h) (Or.inl ⟨by rfl, ?hy44⟩) hSw ?rest44
               case hy44 =>
                 intro w hw
                 obtain ⟨⟨a0, a1, a2, a3, a4, a5⟩, ⟨b0, b1', b2, b3, b4, b5⟩, ⟨c0, c1, c2, c3, c4, c5⟩⟩ := hw
                 go_simp
                 try with_reducible rfl)
          try simp only [Act.put, List.getElem_toArray, List.getElem_cons_zero, List.getElem_cons_succ, List.setIfInBounds_toArray, List.set_cons_zero, List.set_cons_succ]
          first
            | refine wpAnyH_take (i := 45) rfl (by kernel_rfl) (by kernel_rfl) (by kernel_rfl) (fun _ _ _ h => h) (Or.inr ⟨by rfl, rfl⟩) hSw ?_
            | (refine wpAnyH_take (i := 45) (v := ?v45) rfl (by kernel_rfl) (by kernel_rfl) (by kernel_rfl) (fun _ _ _ h => h) (Or.inl ⟨by rfl, ?hy45⟩) hSw ?rest45
               case hy45 =>
                 intro w hw
                 obtain ⟨⟨a0, a1, a2, a3, a4, a5⟩, ⟨b0, b1', b2, b3, b4, b5⟩, ⟨c0, c1, c2, c3, c4, c5⟩⟩ := hw
                 go_simp
                 try with_reducible rfl)
          try simp only [Act.put, List.getElem_toArray, List.getElem_cons_zero, List.getElem_cons_succ, List.setIfInBounds_toArray, List.set_cons_zero, List.set_cons_succ]
          first
            | refine wpAnyH_take (i := 46) rfl (by kernel_rfl) (by kernel_rfl) (by kernel_rfl) (fun _ _ _ h => h) (Or.inr ⟨by rfl, rfl⟩) hSw ?_
            | (refine wpAnyH_take (i := 46) (v := ?v46) rfl (by kernel_rfl) (by kernel_rfl) (by kernel_rfl) (fun _ _ _ h => h) (Or.inl ⟨by rfl, ?hy46⟩) hSw ?rest46
               case hy46 =>
                 intro w hw
                 obtain ⟨⟨a0, a1, a2, a3, a4, a5⟩, ⟨b0, b1', b2, b3, b4, b5⟩, ⟨c0, c1, c2, c3, c4, c5⟩⟩ := hw
                 go_simp
                 try with_reducible rfl)
          try simp only [Act.put, List.getElem_toArray, List.getElem_cons_zero, List.getElem_cons_succ, List.setIfInBounds_toArray, List.set_cons_zero, List.set_cons_succ]
          first
            | refine wpAnyH_take (i := 47) rfl (by kernel_rfl) (by kernel_rfl) (by kernel_rfl) (fun _ _ _ h => h) (Or.inr ⟨by rfl, rfl⟩) hSw ?_
            | (refine wpAnyH_take (i := 47) (v := ?v47) rfl (by kernel_rfl) (by kernel_rfl) (by kernel_rfl) (fun _ _ _ h => h) (Or.inl ⟨by rfl, ?hy47⟩) hSw ?rest47
               case hy47 =>
                 intro w hw
                 obtain ⟨⟨a0, a1, a2, a3, a4, a5⟩, ⟨b0, b1', b2, b3, b4, b5⟩, ⟨c0, c1, c2, c3, c4, c5⟩⟩ := hw
                 go_simp
                 try with_reducible rfl)
          try simp only [Act.put, List.getElem_toArray, List.getElem_cons_zero, List.getElem_cons_succ, List.setIfInBounds_toArray, List.set_cons_zero, List.set_cons_succ]
          first
            | refine wpAnyH_take (i := 48) rfl (by kernel_rfl) (by kernel_rfl) (by kernel_rfl) (fun _ _ _ h => h) (Or.inr ⟨by rfl, rfl⟩) hSw ?_
            | (refine wpAnyH_take (i := 48) (v := ?v48) rfl (by kernel_rfl) (by kernel_rfl) (by kernel_rfl) (fun _ _ _ h => h) (Or.inl ⟨by rfl, ?hy48⟩) hSw ?rest48
               case hy48 =>
                 intro w hw
                 obtain ⟨⟨a0, a1, a2, a3, a4, a5⟩, ⟨b0, b1', b2, b3, b4, b5⟩, ⟨c0, c1, c2, c3, c4, c5⟩⟩ := hw
                 go_simp
                 try with_reducible rfl)
          try simp only [Act.put, List.getElem_toArray, List.getElem_cons_zero, List.getElem_cons_succ, List.setIfInBounds_toArray, List.set_cons_zero, List.set_cons_succ]
          first
            | refine wpAnyH_take (i := 49) rfl (by kernel_rfl) (by kernel_rfl) (by kernel_rfl) (fun _ _ _ h => h) (Or.inr ⟨by rfl, rfl⟩) hSw ?_
            | (refine wpAnyH_take (i := 49) (v := ?v49) rfl (by kernel_rfl) (by kernel_rfl) (by kernel_rfl) (fun _ _ _ h => h) (Or.inl ⟨by rfl, ?hy49⟩) hSw ?rest49
               case hy49 =>
                 intro w hw
                 obtain ⟨⟨a0, a1, a2, a3, a4, a5⟩, ⟨b0, b1', b2, b3, b4, b5⟩, ⟨c0, c1, c2, c3, c4, c5⟩⟩ := hw
                 go_simp
                 try with_reducible rfl)
          try simp only [Act.put, List.getElem_toArray, List.getElem_cons_zero, List.getElem_cons_succ, List.setIfInBounds_toArray, List.set_cons_zero, List.set_cons_succ]
          first
            | refine wpAnyH_take (i := 50) rfl (by kernel_rfl) (by kernel_rfl) (by kernel_rfl) (fun _ _ _ h => h) (Or.inr ⟨by rfl, rfl⟩) hSw ?_
            | (refine wpAnyH_take (i := 50) (v := ?v50) rfl (by kernel_rfl) (by kernel_rfl) (by kernel_rfl) (fun _ _ _ h => h) (Or.inl ⟨by rfl, ?hy50⟩) hSw ?rest50
               case hy50 =>
                 intro w hw
                 obtain ⟨⟨a0, a1, a2, a3, a4, a5⟩, ⟨b0, b1', b2, b3, b4, b5⟩, ⟨c0, c1, c2, c3, c4, c5⟩⟩ := hw
                 go_simp
                 try with_reducible rfl)
          try simp only [Act.put, List.getElem_toArray, List.getElem_cons_zero, List.getElem_cons_succ, List.setIfInBounds_toArray, List.set_cons_zero, List.set_cons_succ]
          first
            | refine wpAnyH_take (i := 51) rfl (by kernel_rfl) (by kernel_rfl) (by kernel_rfl) (fun _ _ _ h => h) (Or.inr ⟨by rfl, rfl⟩) hSw ?_
            | (refine wpAnyH_take (i := 51) (v := ?v51) rfl (by kernel_rfl) (by kernel_rfl) (by kernel_rfl) (fun _ _ _ h => h) (Or.inl ⟨by rfl, ?hy51⟩) hSw ?rest51
               case hy51 =>
                 intro w hw
                 obtain ⟨⟨a0, a1, a2, a3, a4, a5⟩, ⟨b0, b1', b2, b3, b4, b5⟩, ⟨c0, c1, c2, c3, c4, c5⟩⟩ := hw
                 go_simp
                 try with_reducible rfl)
          try simp only [Act.put, List.getElem_toArray, List.getElem_cons_zero, List.getElem_cons_succ, List.setIfInBounds_toArray, List.set_cons_zero, List.set_cons_succ]
          first
            | refine wpAnyH_take (i := 52) rfl (by kernel_rfl) (by kernel_rfl) (by kernel_rfl) (fun _ _ _ h => h) (Or.inr ⟨by rfl, rfl⟩) hSw ?_
            | (refine wpAnyH_take (i := 52) (v := ?v52) rfl (by kernel_rfl) (by kernel_rfl) (by kernel_rfl) (fun _ _ _ h => h) (Or.inl ⟨by rfl, ?hy52⟩) hSw ?rest52
               case hy52 =>
                 intro w hw
                 obtain ⟨⟨a0, a1, a2, a3, a4, a5⟩, ⟨b0, b1', b2, b3, b4, b5⟩, ⟨c0, c1, c2, c3, c4, c5⟩⟩ := hw
                 go_simp
                 try with_reducible rfl)
          try simp only [Act.put, List.getElem_toArray, List.getElem_cons_zero, List.getElem_cons_succ, List.setIfInBounds_toArray, List.set_cons_zero, List.set_cons_succ]
          first
            | refine wpAnyH_take (i := 53) rfl (by kernel_rfl) (by kernel_rfl) (by kernel_rfl) (fun _ _ _ h => h) (Or.inr ⟨by rfl, rfl⟩) hSw ?_
            | (refine wpAnyH_take (i := 53) (v := ?v53) rfl (by kernel_rfl) (by kernel_rfl) (by kernel_rfl) (fun _ _ _ h => h) (Or.inl ⟨by rfl, ?hy53⟩) hSw ?rest53
               case hy53 =>
                 intro w hw
                 obtain ⟨⟨a0, a1, a2, a3, a4, a5⟩, ⟨b0, b1', b2, b3, b4, b5⟩, ⟨c0, c1, c2, c3, c4, c5⟩⟩ := hw
                 go_simp
                 try with_reducible rfl)
          try simp only [Act.put, List.getElem_toArray, List.getElem_cons_zero, List.getElem_cons_succ, List.setIfInBounds_toArray, List.set_cons_zero, List.set_cons_succ]
          first
            | refine wpAnyH_take (i := 54) rfl (by kernel_rfl) (by kernel_rfl) (by kernel_rfl) (fun _ _ _ h => h) (Or.inr ⟨by rfl, rfl⟩) hSw ?_
            | (refine wpAnyH_take (i := 54) (v := ?v54) rfl (by kernel_rfl) (by kernel_rfl) (by kernel_rfl) (fun _ _ _ h => h) (Or.inl ⟨by rfl, ?hy54⟩) hSw ?rest54
               case hy54 =>
                 intro w hw
                 obtain ⟨⟨a0, a1, a2, a3, a4, a5⟩, ⟨b0, b1', b2, b3, b4, b5⟩, ⟨c0, c1, c2, c3, c4, c5⟩⟩ := hw
                 go_simp
                 try with_reducible rfl)
          try simp only [Act.put, List.getElem_toArray, List.getElem_cons_zero, List.getElem_cons_succ, List.setIfInBounds_toArray, List.set_cons_zero, List.set_cons_succ]
          first
            | refine wpAnyH_take (i := 55) rfl (by kernel_rfl) (by kernel_rfl) (by kernel_rfl) (fun _ _ _ h => h) (Or.inr ⟨by rfl, rfl⟩) hSw ?_
            | (refine wpAnyH_take (i := 55) (v := ?v55) rfl (by kernel_rfl) (by kernel_rfl) (by kernel_rfl) (fun _ _ _ h => h) (Or.inl ⟨by rfl, ?hy55⟩) hSw ?rest55
               case hy55 =>
                 intro w hw
                 obtain ⟨⟨a0, a1, a2, a3, a4, a5⟩, ⟨b0, b1', b2, b3, b4, b5⟩, ⟨c0, c1, c2, c3, c4, c5⟩⟩ := hw
                 go_simp
                 try with_reducible rfl)
          try simp only [Act.put, List.getElem_toArray, List.getElem_cons_zero, List.getElem_cons_succ, List.setIfInBounds_toArray, List.set_cons_zero, List.set_cons_succ]
          first
            | refine wpAnyH_take (i := 56) rfl (by kernel_rfl) (by kernel_rfl) (by kernel_rfl) (fun _ _ _ h => h) (Or.inr ⟨by rfl, rfl⟩) hSw ?_
            | (refine wpAnyH_take (i := 56) (v := ?v56) rfl (by kernel_rfl) (by kernel_rfl) (by kernel_rfl) (fun _ _ _ h => h) (Or.inl ⟨by rfl, ?hy56⟩) hSw ?rest56
               case hy56 =>
                 intro w hw
                 obtain ⟨⟨a0, a1, a2, a3, a4, a5⟩, ⟨b0, b1', b2, b3, b4, b5⟩, ⟨c0, c1, c2, c3, c4, c5⟩⟩ := hw
                 go_simp
                 try with_reducible rfl)
          try simp only [Act.put, List.getElem_toArray, List.getElem_cons_zero, List.getElem_cons_succ, List.setIfInBounds_toArray, List.set_cons_zero, List.set_cons_succ]
          first
            | refine wpAnyH_take (i := 57) rfl (by kernel_rfl) (by kernel_rfl) (by kernel_rfl) (fun _ _ _ h => h) (Or.inr ⟨by rfl, rfl⟩) hSw ?_
            | (refine wpAnyH_take (i := 57) (v := ?v57) rfl (by kernel_rfl) (by kernel_rfl) (by kernel_rfl) (fun _ _ _ h => h) (Or.inl ⟨by rfl, ?hy57⟩) hSw ?rest57
               case hy57 =>
                 intro w hw
                 obtain ⟨⟨a0, a1, a2, a3, a4, a5⟩, ⟨b0, b1', b2, b3, b4, b5⟩, ⟨c0, c1, c2, c3, c4, c5⟩⟩ := hw
                 go_simp
                 try with_reducible rfl)
          try simp only [Act.put, List.getElem_toArray, List.getElem_cons_zero, List.getElem_cons_succ, List.setIfInBounds_toArray, List.set_cons_zero, List.set_cons_succ]
          first
            | refine wpAnyH_take (i := 58) rfl (by kernel_rfl) (by kernel_rfl) (by kernel_rfl) (fun _ _ _ h => h) (Or.inr ⟨by rfl, rfl⟩) hSw ?_
            | (refine wpAnyH_take (i := 58) (v := ?v58) rfl (by kernel_rfl) (by kernel_rfl) (by kernel_rfl) (fun _ _ _ h => h) (Or.inl ⟨by rfl, ?hy58⟩) hSw ?rest58
               case hy58 =>
                 intro w hw
                 obtain ⟨⟨a0, a1, a2, a3, a4, a5⟩, ⟨b0, b1', b2, b3, b4, b5⟩, ⟨c0, c1, c2, c3, c4, c5⟩⟩ := hw
                 go_simp
                 try with_reducible rfl)
          try simp only [Act.put, List.getElem_toArray, List.getElem_cons_zero, List.getElem_cons_succ, List.setIfInBounds_toArray, List.set_cons_zero, List.set_cons_succ]
          first
            | refine wpAnyH_take (i := 59) rfl (by kernel_rfl) (by kernel_rfl) (by kernel_rfl) (fun _ _ _ h => h) (Or.inr ⟨by rfl, rfl⟩) hSw ?_
            | (refine wpAnyH_take (i := 59) (v := ?v59) rfl (by kernel_rfl) (by kernel_rfl) (by kernel_rfl) (fun _ _ _ h => h) (Or.inl ⟨by rfl, ?hy59⟩) hSw ?rest59
               case hy59 =>
                 intro w hw
                 obtain ⟨⟨a0, a1, a2, a3, a4, a5⟩, ⟨b0, b1', b2, b3, b4, b5⟩, ⟨c0, c1, c2, c3, c4, c5⟩⟩ := hw
                 go_simp
                 try with_reducible rfl)
          try simp only [Act.put, List.getElem_toArray, List.getElem_cons_zero, List.getElem_cons_succ, List.setIfInBounds_toArray, List.set_cons_zero, List.set_cons_succ]
          refine wpAnyH_ready (rs := [60]) (by kernel_rfl) (by simp) ?_
          refine AllReadyH.cons rfl (fun K hK => ?_) AllReadyH.nil
          rw [if_pos (by kernel_rfl)]
          go_simp
          (go_at_call 14; ((with_reducible refine (HRd.out _).mono ?_); rintro e w9 ⟨rfl, h9⟩; have HU9 := Lib.hid (HUc.out.trans ((Up.drew _).trans h9))))
          try go_wp2
          refine hK.out _ _ ⟨hSw.1.up h9, hSw.2.1.up h9, hSw.2.2.up h9⟩ (fun hSw2 => ?_)
          clear hK K h9 hSw
          try simp only [Act.put, List.getElem_toArray, List.getElem_cons_zero, List.getElem_cons_succ, List.setIfInBounds_toArray, List.set_cons_zero, List.set_cons_succ]
          refine wpAnyH_take (i := 61) (v := ?v61) rfl (by kernel_rfl) (by kernel_rfl) (by kernel_rfl) (fun _ _ _ h => h) (Or.inl ⟨by rfl, ?hy61⟩) hSw2 ?rest61
          case hy61 =>
            intro w hw
            go_simp
            try with_reducible rfl
          try simp only [Act.put, List.getElem_toArray, List.getElem_cons_zero, List.getElem_cons_succ, List.setIfInBounds_toArray, List.set_cons_zero, List.set_cons_succ]
          refine wpAnyH_take (i := 62) (v := ?v62) rfl (by kernel_rfl) (by kernel_rfl) (by kernel_rfl) (fun _ _ _ h => h) (Or.inl ⟨by rfl, ?hy62⟩) hSw2 ?rest62
          case hy62 =>
            intro w hw
            go_simp
            try with_reducible rfl
          try simp only [Act.put, List.getElem_toArray, List.getElem_cons_zero, List.getElem_cons_succ, List.setIfInBounds_toArray, List.set_cons_zero, List.set_cons_succ]
          refine wpAnyH_done (by kernel_rfl) ?_ _
          all_goals
            go_wp2
            go_ret
            exact ⟨rfl, HU9.out⟩
set_option linter.unusedVariables false in
set_option maxRecDepth 100000 in
set_option maxHeartbeats 8000000 in
theorem rows_c (w : World) (x y z : Int) (j q r c n : Nat) (cb : UInt8) (hj : x.tmod 6 = (j : Nat)) (hq : y.tmod 60 = (q : Nat)) (hr : z.tmod 5 = (r : Nat)) (hj6 : j < 6) (hq60 : q < 60) (hr5 : r < 5) (hcb : chS.extract j (j + 1) = ⟨#[cb]⟩) (hcn : cb.toNat = c) (hn : 1 + q = n)
    (HR0 : ∀ (X : ByteArray) (W : World), bl X = rowS c n r → Calls Tryd.prog 7 #[.string X, .int .i64 0] W fun e w' => e = .returned (.tuple #[.agg #[.int .u8 0, .int .i64 0, .int .i64 0, .int .i64 0, .int .i64 0, .int .i64 0], .bool false]) ∧ Up W w')
    (HU0 : ∀ (X : ByteArray) (W : World), bl X = rowS c n r → Calls Tryd.prog 9 #[.string X, .int .i64 0] W fun e w' => e = .returned (.tuple #[.agg #[.int .u8 (c : Nat), .int .i64 (n : Nat), .int .i64 0, .int .i64 0, .int .i64 0, .int .i64 (n : Nat)], .bool true]) ∧ Up W w')
    (HF0 : ∀ (X : ByteArray) (W : World), bl X = rowS c n r ++ [10] → Calls Tryd.prog 10 #[.string X, .int .i64 0] W fun e w' => e = .returned (.tuple #[.agg #[.int .u8 0, .int .i64 0, .int .i64 0, .int .i64 0, .int .i64 0, .int .i64 0], .bool false]) ∧ Up W w') (q1 : 3 ≤ j) (q2 : j ≠ 1) (q3 : j = 3) (q4 : ¬ 3 < j) (q5 : 3 ≤ n) :
    Calls Tryd.prog 5 #[.int .u8 x, .int .u8 y, .int .u8 z] w fun e w' => e = .returned (.bool true) ∧ Up w w' := by
  have q1' : ¬ ((j : Int) < 3) := by omega
  have q2' : ((j : Int) == 1) = false := beq_eq_false_iff_ne.2 (by omega)
  have q3' : ((j : Int) == 3) = true := by rw [q3]; rfl
  have q4' : ¬ ((3 : Int) < (j : Int)) := by omega
  have q5' : (3 : Int) ≤ (n : Int) := by omega
  have hcv := conv96 w
  have HRd := Lib.hid (fun W => reads_any W)
  have HRu := Lib.hid HR0
  have HUn := Lib.hid HU0
  have HFe := Lib.hid HF0
  have hsl : (({ data := #[42, 45, 95, 61, 126] } : ByteArray) ++ { data := #[96] }).extract j (j + 1) = ⟨#[cb]⟩ := hcb
  have hs0 : ((({ data := #[42, 45, 95, 61, 126] } : ByteArray) ++ { data := #[96] }).size : Int) = 6 := rfl
  have hs1 : (({ data := #[42, 45, 95, 61, 126] } : ByteArray) ++ { data := #[96] }).size = 6 := rfl
  have j0 : (0 : Int) ≤ (j : Int) := by omega
  have j1 : (j : Int) ≤ (j : Int) + 1 := by omega
  have j2 : (j : Int) + 1 ≤ 6 := by omega
  have e1 : ((j : Int) + 1) % 256 = (j : Int) + 1 := by omega
  have HE4 := Lib.hid (show IntKind.i64.wrap (r : Int) = (r : Nat) from IntWalk.i64_in _ (by omega))
  have HQ := Lib.hid (And.intro hj6 (And.intro hq60 (And.intro hr5 (And.intro hcn hn))))
  have e2 : IntKind.i64.wrap (q : Int) = (q : Nat) := IntWalk.i64_in _ (by omega)
  have e3 : IntKind.i64.wrap (1 + (q : Int)) = ((1 + q : Nat) : Int) := (IntWalk.i64_in _ (by omega)).trans (by omega)
  clear q1 q2 q3 q4 q5
  clear hj6 hq60 hr5 hcn hcb HR0 HU0 HF0 hn
  go_enter Tryd.func5, Tryd.ntmps5
  go_upto_region 4 with fail
  obtain ⟨a6, a60, a5, hcn, hn⟩ := HQ.out
  have hn2 : (1 + (q : Int)) = (n : Int) := by omega
  rw [hn2]
  obtain ⟨W1, hW1⟩ : ∃ W1, w.alloc (.cells #[.int .u8 96] 5) = W1 := ⟨_, rfl⟩
  have HU1 := Lib.hid (show Up w W1 by rw [← hW1]; exact Up.alloc _ _)
  rw [hW1]
  generalize (({ data := #[42, 45, 95, 61, 126] } : ByteArray) ++ { data := #[96] }) = T0 at *
  obtain ⟨S, hS⟩ : ∃ S : ByteArray, ⟨#[cb]⟩ = S := ⟨_, rfl⟩
  have hS1 : S.size = 1 := by rw [← hS]; rfl
  have hSb : bl S = [c] := by rw [← hS, bl_one, hcn]
  have p1 : (0 : Int) < S.size := by omega
  have hS0 : S[0].toNat = c := by
    have h1 := bl_at (s := S) (i := 0) (by omega)
    rw [hSb] at h1
    rw [bt_eq (by omega)]
    exact (Option.some.inj h1).symm
  rw [hS]
  have HSb := Lib.hid hSb
  have hn60 : n ≤ 60 := by omega
  have HN := Lib.hid (And.intro hn60 (And.intro a5 (show 0 < n by omega)))
  clear hcv hsl hs0 hs1 j0 j1 j2 e1 e2 e3 hW1 hn2 a6 a60 a5 hcn hn hS hSb hn60 hq HQ
  go_wp2
  go_loopg [10, 11] n (fun g lv iv wr => W1 = wr ∧ ∃ (X : ByteArray) (i : Nat), g = n - i ∧ lv = .string X ∧ iv = .int .i64 (i : Nat) ∧ Hid (i ≤ n) ∧ Hid (bl X = List.replicate i c))
  case atStart => exact ⟨rfl, ⟨#[]⟩, 0, rfl, rfl, rfl, Lib.hid (Nat.zero_le _), Lib.hid rfl⟩
  case round =>
    obtain ⟨rfl, X, i, hg, rfl, rfl, HI, HX⟩ := hrel
    have HG := Lib.hid hg
    clear hg
    have hXs : X.size = i := by rw [← bl_len, HX.out, List.length_replicate]
    by_cases hlt : i < n
    · have k1 : (i : Int) < (n : Int) := by omega
      have b1 : ¬ 9223372036854775807 < X.size + S.size := by have := HN.out; omega
      have HX2 := Lib.hid (bl_snoc_rep HX.out HSb.out)
      have HI2 := Lib.hid (show i + 1 ≤ n from hlt)
      have HE := Lib.hid (show IntKind.i64.wrap ((i : Int) + 1) = (i : Int) + 1 from IntWalk.i64_in _ (by have := HN.out; omega))
      obtain ⟨zz, hzz⟩ : ∃ zz, X.size = zz := ⟨_, rfl⟩
      clear hXs hlt
      have e1 := HE.out
      go_wp2
      go_roundg (n - (i + 1))
      case measure => rw [HG.out]; have := HI2.out; omega
      case rel => exact ⟨rfl, X ++ S, i + 1, rfl, rfl, by go_num, HI2, HX2⟩
    · have hin : i = n := by have := HI.out; omega
      have f2' : decide ((i : Int) < (n : Int)) = false := decide_eq_false (by omega)
      have f3' : decide (i < n) = false := decide_eq_false hlt
      have HX0 := Lib.hid (show bl X = rowS c n 0 by rw [HX.out, hin]; unfold rowS; simp)
      clear hXs hin hlt
      go_wp2
      go_loopg [10, 12] r (fun g lv iv wr => W1 = wr ∧ ∃ (X : ByteArray) (i : Nat), g = r - i ∧ lv = .string X ∧ iv = .int .i64 (i : Nat) ∧ Hid (i ≤ r) ∧ Hid (bl X = rowS c n i))
      case atStart => exact ⟨rfl, X, 0, rfl, rfl, rfl, Lib.hid (Nat.zero_le _), HX0⟩
      case round =>
        obtain ⟨rfl, X, i, hg, rfl, rfl, HI, HX⟩ := hrel
        have HG := Lib.hid hg
        clear hg
        have hXs : X.size = n + i := by rw [← bl_len, HX.out]; unfold rowS; simp
        by_cases hlt : i < r
        · have k1 : (i : Int) < (r : Int) := by omega
          have b1 : ¬ 9223372036854775807 < X.size + 1 := by have := HN.out; omega
          have HX2 := Lib.hid (bl_snoc_row HX.out)
          have HI2 := Lib.hid (show i + 1 ≤ r from hlt)
          have HE := Lib.hid (show IntKind.i64.wrap ((i : Int) + 1) = (i : Int) + 1 from IntWalk.i64_in _ (by have := HN.out; omega))
          clear hXs hlt
          have e1 := HE.out
          have e4 := HE4.out
          go_wp2
          go_roundg (r - (i + 1))
          case measure => rw [HG.out]; have := HI2.out; omega
          case rel => exact ⟨rfl, X ++ ⟨#[32]⟩, i + 1, rfl, rfl, by go_num, HI2, HX2⟩
        · have hin : i = r := by have := HI.out; omega
          have g2' : decide ((i : Int) < (r : Int)) = false := decide_eq_false (by omega)
          have g3' : decide (i < r) = false := decide_eq_false hlt
          have b1 : ¬ 9223372036854775807 < X.size + 1 := by have := HN.out; omega
          have HXr := Lib.hid (show bl X = rowS c n r by rw [HX.out, hin])
          have HX10 := Lib.hid (show bl (X ++ ⟨#[10]⟩) = rowS c n r ++ [10] by rw [bl_append, HXr.out]; rfl)
          clear hXs hin hlt
          have e4 := HE4.out
          go_upto_region 18 with (first
            | (go_at_call 7; ((with_reducible refine (HRu.out _ _ HXr.out).mono ?_); rintro e w1 ⟨rfl, h1⟩; have HUa := Lib.hid ((HU1.out.trans h1).trans (Up.alloc w1 (.cells #[.int .u8 0, .int .i64 0, .int .i64 0, .int .i64 0, .int .i64 0, .int .i64 0] 23))); have HA1 := Lib.hid (six_new w1 23 (.int .u8 0) (.int .i64 0) (.int .i64 0) (.int .i64 0) (.int .i64 0) (.int .i64 0)); clear h1))
            | (go_at_call 9; ((with_reducible refine (HUn.out _ _ HXr.out).mono ?_); rintro e w2 ⟨rfl, h2⟩; have HA2 := Lib.hid ((HA1.out.up h2).up (Up.alloc w2 (.cells #[.int .u8 (c : Nat), .int .i64 (n : Nat), .int .i64 0, .int .i64 0, .int .i64 0, .int .i64 (n : Nat)] 23))); have HUb := Lib.hid ((HUa.out.trans h2).trans (Up.alloc w2 (.cells #[.int .u8 (c : Nat), .int .i64 (n : Nat), .int .i64 0, .int .i64 0, .int .i64 0, .int .i64 (n : Nat)] 23))); have HB2 := Lib.hid (six_new w2 23 (.int .u8 (c : Nat)) (.int .i64 (n : Nat)) (.int .i64 0) (.int .i64 0) (.int .i64 0) (.int .i64 (n : Nat))); clear h2))
            | (go_at_call 10; ((with_reducible refine (HFe.out _ _ HX10.out).mono ?_); rintro e w3 ⟨rfl, h3⟩; have HA3 := Lib.hid ((HA2.out.up h3).up (Up.alloc w3 (.cells #[.int .u8 0, .int .i64 0, .int .i64 0, .int .i64 0, .int .i64 0, .int .i64 0] 23))); have HB3 := Lib.hid ((HB2.out.up h3).up (Up.alloc w3 (.cells #[.int .u8 0, .int .i64 0, .int .i64 0, .int .i64 0, .int .i64 0, .int .i64 0] 23))); have HUc := Lib.hid ((HUb.out.trans h3).trans (Up.alloc w3 (.cells #[.int .u8 0, .int .i64 0, .int .i64 0, .int .i64 0, .int .i64 0, .int .i64 0] 23))); have HC3 := Lib.hid (six_new w3 23 (.int .u8 0) (.int .i64 0) (.int .i64 0) (.int .i64 0) (.int .i64 0) (.int .i64 0)); clear h3)))
          obtain ⟨W5, hW5⟩ : ∃ W5, w3.alloc (.cells #[.int .u8 0, .int .i64 0, .int .i64 0, .int .i64 0, .int .i64 0, .int .i64 0] 23) = W5 := ⟨_, rfl⟩
          rw [hW5] at HA3 HB3 HC3 HUc ⊢
          clear hW5 b1 e4 g2' g3'
          refine wp_region_held_drew (S := fun w' : World => Six w' w1.heap.size (.int .u8 0) (.int .i64 0) (.int .i64 0) (.int .i64 0) (.int .i64 0) (.int .i64 0) ∧ Six w' w2.heap.size (.int .u8 (c : Nat)) (.int .i64 (n : Nat)) (.int .i64 0) (.int .i64 0) (.int .i64 0) (.int .i64 (n : Nat)) ∧ Six w' w3.heap.size (.int .u8 0) (.int .i64 0) (.int .i64 0) (.int .i64 0) (.int .i64 0) (.int .i64 0)) (by kernel_rfl) ⟨HA3.out.up (Up.drew _), HB3.out.up (Up.drew _), HC3.out.up (Up.drew _)⟩ (fun hSw => ?_)
          first
            | refine wpAnyH_take (i := 0) rfl (by kernel_rfl) (by kernel_rfl) (by kernel_rfl) (fun _ _ _ h => h) (Or.inr ⟨by rfl, rfl⟩) hSw ?_
            | (refine wpAnyH_take (i := 0) (v := ?v0) rfl (by kernel_rfl) (by kernel_rfl) (by kernel_rfl) (fun _ _ _ h => h) (Or.inl ⟨by rfl, ?hy0⟩) hSw ?rest0
               case hy0 =>
                 intro w hw
                 obtain ⟨⟨a0, a1, a2, a3, a4, a5⟩, ⟨b0, b1', b2, b3, b4, b5⟩, ⟨c0, c1, c2, c3, c4, c5⟩⟩ := hw
                 go_simp
                 try with_reducible rfl)
          try simp only [Act.put, List.getElem_toArray, List.getElem_cons_zero, List.getElem_cons_succ, List.setIfInBounds_toArray, List.set_cons_zero, List.set_cons_succ]
          first
            | refine wpAnyH_take (i := 1) rfl (by kernel_rfl) (by kernel_rfl) (by kernel_rfl) (fun _ _ _ h => h) (Or.inr ⟨by rfl, rfl⟩) hSw ?_
            | (refine wpAnyH_take (i := 1) (v := ?v1) rfl (by kernel_rfl) (by kernel_rfl) (by kernel_rfl) (fun _ _ _ h => h) (Or.inl ⟨by rfl, ?hy1⟩) hSw ?rest1
               case hy1 =>
                 intro w hw
                 obtain ⟨⟨a0, a1, a2, a3, a4, a5⟩, ⟨b0, b1', b2, b3, b4, b5⟩, ⟨c0, c1, c2, c3, c4, c5⟩⟩ := hw
                 go_simp
                 try with_reducible rfl)
          try simp only [Act.put, List.getElem_toArray, List.getElem_cons_zero, List.getElem_cons_succ, List.setIfInBounds_toArray, List.set_cons_zero, List.set_cons_succ]
          first
            | refine wpAnyH_take (i := 2) rfl (by kernel_rfl) (by kernel_rfl) (by kernel_rfl) (fun _ _ _ h => h) (Or.inr ⟨by rfl, rfl⟩) hSw ?_
            | (refine wpAnyH_take (i := 2) (v := ?v2) rfl (by kernel_rfl) (by kernel_rfl) (by kernel_rfl) (fun _ _ _ h => h) (Or.inl ⟨by rfl, ?hy2⟩) hSw ?rest2
               case hy2 =>
                 intro w hw
                 obtain ⟨⟨a0, a1, a2, a3, a4, a5⟩, ⟨b0, b1', b2, b3, b4, b5⟩, ⟨c0, c1, c2, c3, c4, c5⟩⟩ := hw
                 go_simp
                 try with_reducible rfl)
          try simp only [Act.put, List.getElem_toArray, List.getElem_cons_zero, List.getElem_cons_succ, List.setIfInBounds_toArray, List.set_cons_zero, List.set_cons_succ]
          first
            | refine wpAnyH_take (i := 3) rfl (by kernel_rfl) (by kernel_rfl) (by kernel_rfl) (fun _ _ _ h => h) (Or.inr ⟨by rfl, rfl⟩) hSw ?_
            | (refine wpAnyH_take (i := 3) (v := ?v3) rfl (by kernel_rfl) (by kernel_rfl) (by kernel_rfl) (fun _ _ _ h => h) (Or.inl ⟨by rfl, ?hy3⟩) hSw ?rest3
               case hy3 =>
                 intro w hw
                 obtain ⟨⟨a0, a1, a2, a3, a4, a5⟩, ⟨b0, b1', b2, b3, b4, b5⟩, ⟨c0, c1, c2, c3, c4, c5⟩⟩ := hw
                 go_simp
                 try with_reducible rfl)
          try simp only [Act.put, List.getElem_toArray, List.getElem_cons_zero, List.getElem_cons_succ, List.setIfInBounds_toArray, List.set_cons_zero, List.set_cons_succ]
          first
            | refine wpAnyH_take (i := 4) rfl (by kernel_rfl) (by kernel_rfl) (by kernel_rfl) (fun _ _ _ h => h) (Or.inr ⟨by rfl, rfl⟩) hSw ?_
            | (refine wpAnyH_take (i := 4) (v := ?v4) rfl (by kernel_rfl) (by kernel_rfl) (by kernel_rfl) (fun _ _ _ h => h) (Or.inl ⟨by rfl, ?hy4⟩) hSw ?rest4
               case hy4 =>
                 intro w hw
                 obtain ⟨⟨a0, a1, a2, a3, a4, a5⟩, ⟨b0, b1', b2, b3, b4, b5⟩, ⟨c0, c1, c2, c3, c4, c5⟩⟩ := hw
                 go_simp
                 try with_reducible rfl)
          try simp only [Act.put, List.getElem_toArray, List.getElem_cons_zero, List.getElem_cons_succ, List.setIfInBounds_toArray, List.set_cons_zero, List.set_cons_succ]
          first
            | refine wpAnyH_take (i := 5) rfl (by kernel_rfl) (by kernel_rfl) (by kernel_rfl) (fun _ _ _ h => h) (Or.inr ⟨by rfl, rfl⟩) hSw ?_
            | (refine wpAnyH_take (i := 5) (v := ?v5) rfl (by kernel_rfl) (by kernel_rfl) (by kernel_rfl) (fun _ _ _ h => h) (Or.inl ⟨by rfl, ?hy5⟩) hSw ?rest5
               case hy5 =>
                 intro w hw
                 obtain ⟨⟨a0, a1, a2, a3, a4, a5⟩, ⟨b0, b1', b2, b3, b4, b5⟩, ⟨c0, c1, c2, c3, c4, c5⟩⟩ := hw
                 go_simp
                 try with_reducible rfl)
          try simp only [Act.put, List.getElem_toArray, List.getElem_cons_zero, List.getElem_cons_succ, List.setIfInBounds_toArray, List.set_cons_zero, List.set_cons_succ]
          first
            | refine wpAnyH_take (i := 6) rfl (by kernel_rfl) (by kernel_rfl) (by kernel_rfl) (fun _ _ _ h => h) (Or.inr ⟨by rfl, rfl⟩) hSw ?_
            | (refine wpAnyH_take (i := 6) (v := ?v6) rfl (by kernel_rfl) (by kernel_rfl) (by kernel_rfl) (fun _ _ _ h => h) (Or.inl ⟨by rfl, ?hy6⟩) hSw ?rest6
               case hy6 =>
                 intro w hw
                 obtain ⟨⟨a0, a1, a2, a3, a4, a5⟩, ⟨b0, b1', b2, b3, b4, b5⟩, ⟨c0, c1, c2, c3, c4, c5⟩⟩ := hw
                 go_simp
                 try with_reducible rfl)
          try simp only [Act.put, List.getElem_toArray, List.getElem_cons_zero, List.getElem_cons_succ, List.setIfInBounds_toArray, List.set_cons_zero, List.set_cons_succ]
          first
            | refine wpAnyH_take (i := 7) rfl (by kernel_rfl) (by kernel_rfl) (by kernel_rfl) (fun _ _ _ h => h) (Or.inr ⟨by rfl, rfl⟩) hSw ?_
            | (refine wpAnyH_take (i := 7) (v := ?v7) rfl (by kernel_rfl) (by kernel_rfl) (by kernel_rfl) (fun _ _ _ h => h) (Or.inl ⟨by rfl, ?hy7⟩) hSw ?rest7
               case hy7 =>
                 intro w hw
                 obtain ⟨⟨a0, a1, a2, a3, a4, a5⟩, ⟨b0, b1', b2, b3, b4, b5⟩, ⟨c0, c1, c2, c3, c4, c5⟩⟩ := hw
                 go_simp
                 try with_reducible rfl)
          try simp only [Act.put, List.getElem_toArray, List.getElem_cons_zero, List.getElem_cons_succ, List.setIfInBounds_toArray, List.set_cons_zero, List.set_cons_succ]
          first
            | refine wpAnyH_take (i := 8) rfl (by kernel_rfl) (by kernel_rfl) (by kernel_rfl) (fun _ _ _ h => h) (Or.inr ⟨by rfl, rfl⟩) hSw ?_
            | (refine wpAnyH_take (i := 8) (v := ?v8) rfl (by kernel_rfl) (by kernel_rfl) (by kernel_rfl) (fun _ _ _ h => h) (Or.inl ⟨by rfl, ?hy8⟩) hSw ?rest8
               case hy8 =>
                 intro w hw
                 obtain ⟨⟨a0, a1, a2, a3, a4, a5⟩, ⟨b0, b1', b2, b3, b4, b5⟩, ⟨c0, c1, c2, c3, c4, c5⟩⟩ := hw
                 go_simp
                 try with_reducible rfl)
          try simp only [Act.put, List.getElem_toArray, List.getElem_cons_zero, List.getElem_cons_succ, List.setIfInBounds_toArray, List.set_cons_zero, List.set_cons_succ]
          first
            | refine wpAnyH_take (i := 9) rfl (by kernel_rfl) (by kernel_rfl) (by kernel_rfl) (fun _ _ _ h => h) (Or.inr ⟨by rfl, rfl⟩) hSw ?_
            | (refine wpAnyH_take (i := 9) (v := ?v9) rfl (by kernel_rfl) (by kernel_rfl) (by kernel_rfl) (fun _ _ _ h => h) (Or.inl ⟨by rfl, ?hy9⟩) hSw ?rest9
               case hy9 =>
                 intro w hw
                 obtain ⟨⟨a0, a1, a2, a3, a4, a5⟩, ⟨b0, b1', b2, b3, b4, b5⟩, ⟨c0, c1, c2, c3, c4, c5⟩⟩ := hw
                 go_simp
                 try with_reducible rfl)
          try simp only [Act.put, List.getElem_toArray, List.getElem_cons_zero, List.getElem_cons_succ, List.setIfInBounds_toArray, List.set_cons_zero, List.set_cons_succ]
          first
            | refine wpAnyH_take (i := 10) rfl (by kernel_rfl) (by kernel_rfl) (by kernel_rfl) (fun _ _ _ h => h) (Or.inr ⟨by rfl, rfl⟩) hSw ?_
            | (refine wpAnyH_take (i := 10) (v := ?v10) rfl (by kernel_rfl) (by kernel_rfl) (by kernel_rfl) (fun _ _ _ h => h) (Or.inl ⟨by rfl, ?hy10⟩) hSw ?rest10
               case hy10 =>
                 intro w hw
                 obtain ⟨⟨a0, a1, a2, a3, a4, a5⟩, ⟨b0, b1', b2, b3, b4, b5⟩, ⟨c0, c1, c2, c3, c4, c5⟩⟩ := hw
                 go_simp
                 try with_reducible rfl)
          try simp only [Act.put, List.getElem_toArray, List.getElem_cons_zero, List.getElem_cons_succ, List.setIfInBounds_toArray, List.set_cons_zero, List.set_cons_succ]
          first
            | refine wpAnyH_take (i := 11) rfl (by kernel_rfl) (by kernel_rfl) (by kernel_rfl) (fun _ _ _ h => h) (Or.inr ⟨by rfl, rfl⟩) hSw ?_
            | (refine wpAnyH_take (i := 11) (v := ?v11) rfl (by kernel_rfl) (by kernel_rfl) (by kernel_rfl) (fun _ _ _ h => h) (Or.inl ⟨by rfl, ?hy11⟩) hSw ?rest11
               case hy11 =>
                 intro w hw
                 obtain ⟨⟨a0, a1, a2, a3, a4, a5⟩, ⟨b0, b1', b2, b3, b4, b5⟩, ⟨c0, c1, c2, c3, c4, c5⟩⟩ := hw
                 go_simp
                 try with_reducible rfl)
          try simp only [Act.put, List.getElem_toArray, List.getElem_cons_zero, List.getElem_cons_succ, List.setIfInBounds_toArray, List.set_cons_zero, List.set_cons_succ]
          first
            | refine wpAnyH_take (i := 12) rfl (by kernel_rfl) (by kernel_rfl) (by kernel_rfl) (fun _ _ _ h => h) (Or.inr ⟨by rfl, rfl⟩) hSw ?_
            | (refine wpAnyH_take (i := 12) (v := ?v12) rfl (by kernel_rfl) (by kernel_rfl) (by kernel_rfl) (fun _ _ _ h => h) (Or.inl ⟨by rfl, ?hy12⟩) hSw ?rest12
               case hy12 =>
                 intro w hw
                 obtain ⟨⟨a0, a1, a2, a3, a4, a5⟩, ⟨b0, b1', b2, b3, b4, b5⟩, ⟨c0, c1, c2, c3, c4, c5⟩⟩ := hw
                 go_simp
                 try with_reducible rfl)
          try simp only [Act.put, List.getElem_toArray, List.getElem_cons_zero, List.getElem_cons_succ, List.setIfInBounds_toArray, List.set_cons_zero, List.set_cons_succ]
          first
            | refine wpAnyH_take (i := 13) rfl (by kernel_rfl) (by kernel_rfl) (by kernel_rfl) (fun _ _ _ h => h) (Or.inr ⟨by rfl, rfl⟩) hSw ?_
            | (refine wpAnyH_take (i := 13) (v := ?v13) rfl (by kernel_rfl) (by kernel_rfl) (by kernel_rfl) (fun _ _ _ h => h) (Or.inl ⟨by rfl, ?hy13⟩) hSw ?rest13
               case hy13 =>
                 intro w hw
                 obtain ⟨⟨a0, a1, a2, a3, a4, a5⟩, ⟨b0, b1', b2, b3, b4, b5⟩, ⟨c0, c1, c2, c3, c4, c5⟩⟩ := hw
                 go_simp
                 try with_reducible rfl)
          try simp only [Act.put, List.getElem_toArray, List.getElem_cons_zero, List.getElem_cons_succ, List.setIfInBounds_toArray, List.set_cons_zero, List.set_cons_succ]
          first
            | refine wpAnyH_take (i := 14) rfl (by kernel_rfl) (by kernel_rfl) (by kernel_rfl) (fun _ _ _ h => h) (Or.inr ⟨by rfl, rfl⟩) hSw ?_
            | (refine wpAnyH_take (i := 14) (v := ?v14) rfl (by kernel_rfl) (by kernel_rfl) (by kernel_rfl) (fun _ _ _ h => h) (Or.inl ⟨by rfl, ?hy14⟩) hSw ?rest14
               case hy14 =>
                 intro w hw
                 obtain ⟨⟨a0, a1, a2, a3, a4, a5⟩, ⟨b0, b1', b2, b3, b4, b5⟩, ⟨c0, c1, c2, c3, c4, c5⟩⟩ := hw
                 go_simp
                 try with_reducible rfl)
          try simp only [Act.put, List.getElem_toArray, List.getElem_cons_zero, List.getElem_cons_succ, List.setIfInBounds_toArray, List.set_cons_zero, List.set_cons_succ]
          first
            | refine wpAnyH_take (i := 15) rfl (by kernel_rfl) (by kernel_rfl) (by kernel_rfl) (fun _ _ _ h => h) (Or.inr ⟨by rfl, rfl⟩) hSw ?_
            | (refine wpAnyH_take (i := 15) (v := ?v15) rfl (by kernel_rfl) (by kernel_rfl) (by kernel_rfl) (fun _ _ _ h => h) (Or.inl ⟨by rfl, ?hy15⟩) hSw ?rest15
               case hy15 =>
                 intro w hw
                 obtain ⟨⟨a0, a1, a2, a3, a4, a5⟩, ⟨b0, b1', b2, b3, b4, b5⟩, ⟨c0, c1, c2, c3, c4, c5⟩⟩ := hw
                 go_simp
                 try with_reducible rfl)
          try simp only [Act.put, List.getElem_toArray, List.getElem_cons_zero, List.getElem_cons_succ, List.setIfInBounds_toArray, List.set_cons_zero, List.set_cons_succ]
          first
            | refine wpAnyH_take (i := 16) rfl (by kernel_rfl) (by kernel_rfl) (by kernel_rfl) (fun _ _ _ h => h) (Or.inr ⟨by rfl, rfl⟩) hSw ?_
            | (refine wpAnyH_take (i := 16) (v := ?v16) rfl (by kernel_rfl) (by kernel_rfl) (by kernel_rfl) (fun _ _ _ h => h) (Or.inl ⟨by rfl, ?hy16⟩) hSw ?rest16
               case hy16 =>
                 intro w hw
                 obtain ⟨⟨a0, a1, a2, a3, a4, a5⟩, ⟨b0, b1', b2, b3, b4, b5⟩, ⟨c0, c1, c2, c3, c4, c5⟩⟩ := hw
                 go_simp
                 try with_reducible rfl)
          try simp only [Act.put, List.getElem_toArray, List.getElem_cons_zero, List.getElem_cons_succ, List.setIfInBounds_toArray, List.set_cons_zero, List.set_cons_succ]
          first
            | refine wpAnyH_take (i := 17) rfl (by kernel_rfl) (by kernel_rfl) (by kernel_rfl) (fun _ _ _ h => h) (Or.inr ⟨by rfl, rfl⟩) hSw ?_
            | (refine wpAnyH_take (i := 17) (v := ?v17) rfl (by kernel_rfl) (by kernel_rfl) (by kernel_rfl) (fun _ _ _ h => h) (Or.inl ⟨by rfl, ?hy17⟩) hSw ?rest17
               case hy17 =>
                 intro w hw
                 obtain ⟨⟨a0, a1, a2, a3, a4, a5⟩, ⟨b0, b1', b2, b3, b4, b5⟩, ⟨c0, c1, c2, c3, c4, c5⟩⟩ := hw
                 go_simp
                 try with_reducible rfl)
          try simp only [Act.put, List.getElem_toArray, List.getElem_cons_zero, List.getElem_cons_succ, List.setIfInBounds_toArray, List.set_cons_zero, List.set_cons_succ]
          first
            | refine wpAnyH_take (i := 18) rfl (by kernel_rfl) (by kernel_rfl) (by kernel_rfl) (fun _ _ _ h => h) (Or.inr ⟨by rfl, rfl⟩) hSw ?_
            | (refine wpAnyH_take (i := 18) (v := ?v18) rfl (by kernel_rfl) (by kernel_rfl) (by kernel_rfl) (fun _ _ _ h => h) (Or.inl ⟨by rfl, ?hy18⟩) hSw ?rest18
               case hy18 =>
                 intro w hw
                 obtain ⟨⟨a0, a1, a2, a3, a4, a5⟩, ⟨b0, b1', b2, b3, b4, b5⟩, ⟨c0, c1, c2, c3, c4, c5⟩⟩ := hw
                 go_simp
                 try with_reducible rfl)
          try simp only [Act.put, List.getElem_toArray, List.getElem_cons_zero, List.getElem_cons_succ, List.setIfInBounds_toArray, List.set_cons_zero, List.set_cons_succ]
          first
            | refine wpAnyH_take (i := 19) rfl (by kernel_rfl) (by kernel_rfl) (by kernel_rfl) (fun _ _ _ h => h) (Or.inr ⟨by rfl, rfl⟩) hSw ?_
            | (refine wpAnyH_take (i := 19) (v := ?v19) rfl (by kernel_rfl) (by kernel_rfl) (by kernel_rfl) (fun _ _ _ h => h) (Or.inl ⟨by rfl, ?hy19⟩) hSw ?rest19
               case hy19 =>
                 intro w hw
                 obtain ⟨⟨a0, a1, a2, a3, a4, a5⟩, ⟨b0, b1', b2, b3, b4, b5⟩, ⟨c0, c1, c2, c3, c4, c5⟩⟩ := hw
                 go_simp
                 try with_reducible rfl)
          try simp only [Act.put, List.getElem_toArray, List.getElem_cons_zero, List.getElem_cons_succ, List.setIfInBounds_toArray, List.set_cons_zero, List.set_cons_succ]
          first
            | refine wpAnyH_take (i := 20) rfl (by kernel_rfl) (by kernel_rfl) (by kernel_rfl) (fun _ _ _ h => h) (Or.inr ⟨by rfl, rfl⟩) hSw ?_
            | (refine wpAnyH_take (i := 20) (v := ?v20) rfl (by kernel_rfl) (by kernel_rfl) (by kernel_rfl) (fun _ _ _ h => h) (Or.inl ⟨by rfl, ?hy20⟩) hSw ?rest20
               case hy20 =>
                 intro w hw
                 obtain ⟨⟨a0, a1, a2, a3, a4, a5⟩, ⟨b0, b1', b2, b3, b4, b5⟩, ⟨c0, c1, c2, c3, c4, c5⟩⟩ := hw
                 go_simp
                 try with_reducible rfl)
          try simp only [Act.put, List.getElem_toArray, List.getElem_cons_zero, List.getElem_cons_succ, List.setIfInBounds_toArray, List.set_cons_zero, List.set_cons_succ]
          first
            | refine wpAnyH_take (i := 21) rfl (by kernel_rfl) (by kernel_rfl) (by kernel_rfl) (fun _ _ _ h => h) (Or.inr ⟨by rfl, rfl⟩) hSw ?_
            | (refine wpAnyH_take (i := 21) (v := ?v21) rfl (by kernel_rfl) (by kernel_rfl) (by kernel_rfl) (fun _ _ _ h => h) (Or.inl ⟨by rfl, ?hy21⟩) hSw ?rest21
               case hy21 =>
                 intro w hw
                 obtain ⟨⟨a0, a1, a2, a3, a4, a5⟩, ⟨b0, b1', b2, b3, b4, b5⟩, ⟨c0, c1, c2, c3, c4, c5⟩⟩ := hw
                 go_simp
                 try with_reducible rfl)
          try simp only [Act.put, List.getElem_toArray, List.getElem_cons_zero, List.getElem_cons_succ, List.setIfInBounds_toArray, List.set_cons_zero, List.set_cons_succ]
          first
            | refine wpAnyH_take (i := 22) rfl (by kernel_rfl) (by kernel_rfl) (by kernel_rfl) (fun _ _ _ h => h) (Or.inr ⟨by rfl, rfl⟩) hSw ?_
            | (refine wpAnyH_take (i := 22) (v := ?v22) rfl (by kernel_rfl) (by kernel_rfl) (by kernel_rfl) (fun _ _ _ h => h) (Or.inl ⟨by rfl, ?hy22⟩) hSw ?rest22
               case hy22 =>
                 intro w hw
                 obtain ⟨⟨a0, a1, a2, a3, a4, a5⟩, ⟨b0, b1', b2, b3, b4, b5⟩, ⟨c0, c1, c2, c3, c4, c5⟩⟩ := hw
                 go_simp
                 try with_reducible rfl)
          try simp only [Act.put, List.getElem_toArray, List.getElem_cons_zero, List.getElem_cons_succ, List.setIfInBounds_toArray, List.set_cons_zero, List.set_cons_succ]
          first
            | refine wpAnyH_take (i := 23) rfl (by kernel_rfl) (by kernel_rfl) (by kernel_rfl) (fun _ _ _ h => h) (Or.inr ⟨by rfl, rfl⟩) hSw ?_
            | (refine wpAnyH_take (i := 23) (v := ?v23) rfl (by kernel_rfl) (by kernel_rfl) (by kernel_rfl) (fun _ _ _ h => h) (Or.inl ⟨by rfl, ?hy23⟩) hSw ?rest23
               case hy23 =>
                 intro w hw
                 obtain ⟨⟨a0, a1, a2, a3, a4, a5⟩, ⟨b0, b1', b2, b3, b4, b5⟩, ⟨c0, c1, c2, c3, c4, c5⟩⟩ := hw
                 go_simp
                 try with_reducible rfl)
          try simp only [Act.put, List.getElem_toArray, List.getElem_cons_zero, List.getElem_cons_succ, List.setIfInBounds_toArray, List.set_cons_zero, List.set_cons_succ]
          first
            | refine wpAnyH_take (i := 24) rfl (by kernel_rfl) (by kernel_rfl) (by kernel_rfl) (fun _ _ _ h => h) (Or.inr ⟨by rfl, rfl⟩) hSw ?_
            | (refine wpAnyH_take (i := 24) (v := ?v24) rfl (by kernel_rfl) (by kernel_rfl) (by kernel_rfl) (fun _ _ _ h => h) (Or.inl ⟨by rfl, ?hy24⟩) hSw ?rest24
               case hy24 =>
                 intro w hw
                 obtain ⟨⟨a0, a1, a2, a3, a4, a5⟩, ⟨b0, b1', b2, b3, b4, b5⟩, ⟨c0, c1, c2, c3, c4, c5⟩⟩ := hw
                 go_simp
                 try with_reducible rfl)
          try simp only [Act.put, List.getElem_toArray, List.getElem_cons_zero, List.getElem_cons_succ, List.setIfInBounds_toArray, List.set_cons_zero, List.set_cons_succ]
          first
            | refine wpAnyH_take (i := 25) rfl (by kernel_rfl) (by kernel_rfl) (by kernel_rfl) (fun _ _ _ h => h) (Or.inr ⟨by rfl, rfl⟩) hSw ?_
            | (refine wpAnyH_take (i := 25) (v := ?v25) rfl (by kernel_rfl) (by kernel_rfl) (by kernel_rfl) (fun _ _ _ h => h) (Or.inl ⟨by rfl, ?hy25⟩) hSw ?rest25
               case hy25 =>
                 intro w hw
                 obtain ⟨⟨a0, a1, a2, a3, a4, a5⟩, ⟨b0, b1', b2, b3, b4, b5⟩, ⟨c0, c1, c2, c3, c4, c5⟩⟩ := hw
                 go_simp
                 try with_reducible rfl)
          try simp only [Act.put, List.getElem_toArray, List.getElem_cons_zero, List.getElem_cons_succ, List.setIfInBounds_toArray, List.set_cons_zero, List.set_cons_succ]
          first
            | refine wpAnyH_take (i := 26) rfl (by kernel_rfl) (by kernel_rfl) (by kernel_rfl) (fun _ _ _ h => h) (Or.inr ⟨by rfl, rfl⟩) hSw ?_
            | (refine wpAnyH_take (i := 26) (v := ?v26) rfl (by kernel_rfl) (by kernel_rfl) (by kernel_rfl) (fun _ _ _ h => h) (Or.inl ⟨by rfl, ?hy26⟩) hSw ?rest26
               case hy26 =>
                 intro w hw
                 obtain ⟨⟨a0, a1, a2, a3, a4, a5⟩, ⟨b0, b1', b2, b3, b4, b5⟩, ⟨c0, c1, c2, c3, c4, c5⟩⟩ := hw
                 go_simp
                 try with_reducible rfl)
          try simp only [Act.put, List.getElem_toArray, List.getElem_cons_zero, List.getElem_cons_succ, List.setIfInBounds_toArray, List.set_cons_zero, List.set_cons_succ]
          first
            | refine wpAnyH_take (i := 27) rfl (by kernel_rfl) (by kernel_rfl) (by kernel_rfl) (fun _ _ _ h => h) (Or.inr ⟨by rfl, rfl⟩) hSw ?_
            | (refine wpAnyH_take (i := 27) (v := ?v27) rfl (by kernel_rfl) (by kernel_rfl) (by kernel_rfl) (fun _ _ _ h => h) (Or.inl ⟨by rfl, ?hy27⟩) hSw ?rest27
               case hy27 =>
                 intro w hw
                 obtain ⟨⟨a0, a1, a2, a3, a4, a5⟩, ⟨b0, b1', b2, b3, b4, b5⟩, ⟨c0, c1, c2, c3, c4, c5⟩⟩ := hw
                 go_simp
                 try with_reducible rfl)
          try simp only [Act.put, List.getElem_toArray, List.getElem_cons_zero, List.getElem_cons_succ, List.setIfInBounds_toArray, List.set_cons_zero, List.set_cons_succ]
          first
            | refine wpAnyH_take (i := 28) rfl (by kernel_rfl) (by kernel_rfl) (by kernel_rfl) (fun _ _ _ h => h) (Or.inr ⟨by rfl, rfl⟩) hSw ?_
            | (refine wpAnyH_take (i := 28) (v := ?v28) rfl (by kernel_rfl) (by kernel_rfl) (by kernel_rfl) (fun _ _ _ h => h) (Or.inl ⟨by rfl, ?hy28⟩) hSw ?rest28
               case hy28 =>
                 intro w hw
                 obtain ⟨⟨a0, a1, a2, a3, a4, a5⟩, ⟨b0, b1', b2, b3, b4, b5⟩, ⟨c0, c1, c2, c3, c4, c5⟩⟩ := hw
                 go_simp
                 try with_reducible rfl)
          try simp only [Act.put, List.getElem_toArray, List.getElem_cons_zero, List.getElem_cons_succ, List.setIfInBounds_toArray, List.set_cons_zero, List.set_cons_succ]
          first
            | refine wpAnyH_take (i := 29) rfl (by kernel_rfl) (by kernel_rfl) (by kernel_rfl) (fun _ _ _ h => h) (Or.inr ⟨by rfl, rfl⟩) hSw ?_
            | (refine wpAnyH_take (i := 29) (v := ?v29) rfl (by kernel_rfl) (by kernel_rfl) (by kernel_rfl) (fun _ _ _ h => h) (Or.inl ⟨by rfl, ?hy29⟩) hSw ?rest29
               case hy29 =>
                 intro w hw
                 obtain ⟨⟨a0, a1, a2, a3, a4, a5⟩, ⟨b0, b1', b2, b3, b4, b5⟩, ⟨c0, c1, c2, c3, c4, c5⟩⟩ := hw
                 go_simp
                 try with_reducible rfl)
          try simp only [Act.put, List.getElem_toArray, List.getElem_cons_zero, List.getElem_cons_succ, List.setIfInBounds_toArray, List.set_cons_zero, List.set_cons_succ]
          first
            | refine wpAnyH_take (i := 30) rfl (by kernel_rfl) (by kernel_rfl) (by kernel_rfl) (fun _ _ _ h => h) (Or.inr ⟨by rfl, rfl⟩) hSw ?_
            | (refine wpAnyH_take (i := 30) (v := ?v30) rfl (by kernel_rfl) (by kernel_rfl) (by kernel_rfl) (fun _ _ _ h => h) (Or.inl ⟨by rfl, ?hy30⟩) hSw ?rest30
               case hy30 =>
                 intro w hw
                 obtain ⟨⟨a0, a1, a2, a3, a4, a5⟩, ⟨b0, b1', b2, b3, b4, b5⟩, ⟨c0, c1, c2, c3, c4, c5⟩⟩ := hw
                 go_simp
                 try with_reducible rfl)
          try simp only [Act.put, List.getElem_toArray, List.getElem_cons_zero, List.getElem_cons_succ, List.setIfInBounds_toArray, List.set_cons_zero, List.set_cons_succ]
          first
            | refine wpAnyH_take (i := 31) rfl (by kernel_rfl) (by kernel_rfl) (by kernel_rfl) (fun _ _ _ h => h) (Or.inr ⟨by rfl, rfl⟩) hSw ?_
            | (refine wpAnyH_take (i := 31) (v := ?v31) rfl (by kernel_rfl) (by kernel_rfl) (by kernel_rfl) (fun _ _ _ h => h) (Or.inl ⟨by rfl, ?hy31⟩) hSw ?rest31
               case hy31 =>
                 intro w hw
                 obtain ⟨⟨a0, a1, a2, a3, a4, a5⟩, ⟨b0, b1', b2, b3, b4, b5⟩, ⟨c0, c1, c2, c3, c4, c5⟩⟩ := hw
                 go_simp
                 try with_reducible rfl)
          try simp only [Act.put, List.getElem_toArray, List.getElem_cons_zero, List.getElem_cons_succ, List.setIfInBounds_toArray, List.set_cons_zero, List.set_cons_succ]
          first
            | refine wpAnyH_take (i := 32) rfl (by kernel_rfl) (by kernel_rfl) (by kernel_rfl) (fun _ _ _ h => h) (Or.inr ⟨by rfl, rfl⟩) hSw ?_
            | (refine wpAnyH_take (i := 32) (v := ?v32) rfl (by kernel_rfl) (by kernel_rfl) (by kernel_rfl) (fun _ _ _ h => h) (Or.inl ⟨by rfl, ?hy32⟩) hSw ?rest32
               case hy32 =>
                 intro w hw
                 obtain ⟨⟨a0, a1, a2, a3, a4, a5⟩, ⟨b0, b1', b2, b3, b4, b5⟩, ⟨c0, c1, c2, c3, c4, c5⟩⟩ := hw
                 go_simp
                 try with_reducible rfl)
          try simp only [Act.put, List.getElem_toArray, List.getElem_cons_zero, List.getElem_cons_succ, List.setIfInBounds_toArray, List.set_cons_zero, List.set_cons_succ]
          first
            | refine wpAnyH_take (i := 33) rfl (by kernel_rfl) (by kernel_rfl) (by kernel_rfl) (fun _ _ _ h => h) (Or.inr ⟨by rfl, rfl⟩) hSw ?_
            | (refine wpAnyH_take (i := 33) (v := ?v33) rfl (by kernel_rfl) (by kernel_rfl) (by kernel_rfl) (fun _ _ _ h => h) (Or.inl ⟨by rfl, ?hy33⟩) hSw ?rest33
               case hy33 =>
                 intro w hw
                 obtain ⟨⟨a0, a1, a2, a3, a4, a5⟩, ⟨b0, b1', b2, b3, b4, b5⟩, ⟨c0, c1, c2, c3, c4, c5⟩⟩ := hw
                 go_simp
                 try with_reducible rfl)
          try simp only [Act.put, List.getElem_toArray, List.getElem_cons_zero, List.getElem_cons_succ, List.setIfInBounds_toArray, List.set_cons_zero, List.set_cons_succ]
          first
            | refine wpAnyH_take (i := 34) rfl (by kernel_rfl) (by kernel_rfl) (by kernel_rfl) (fun _ _ _ h => h) (Or.inr ⟨by rfl, rfl⟩) hSw ?_
            | (refine wpAnyH_take (i := 34) (v := ?v34) rfl (by kernel_rfl) (by kernel_rfl) (by kernel_rfl) (fun _ _ _ h => h) (Or.inl ⟨by rfl, ?hy34⟩) hSw ?rest34
               case hy34 =>
                 intro w hw
                 obtain ⟨⟨a0, a1, a2, a3, a4, a5⟩, ⟨b0, b1', b2, b3, b4, b5⟩, ⟨c0, c1, c2, c3, c4, c5⟩⟩ := hw
                 go_simp
                 try with_reducible rfl)
          try simp only [Act.put, List.getElem_toArray, List.getElem_cons_zero, List.getElem_cons_succ, List.setIfInBounds_toArray, List.set_cons_zero, List.set_cons_succ]
          first
            | refine wpAnyH_take (i := 35) rfl (by kernel_rfl) (by kernel_rfl) (by kernel_rfl) (fun _ _ _ h => h) (Or.inr ⟨by rfl, rfl⟩) hSw ?_
            | (refine wpAnyH_take (i := 35) (v := ?v35) rfl (by kernel_rfl) (by kernel_rfl) (by kernel_rfl) (fun _ _ _ h => h) (Or.inl ⟨by rfl, ?hy35⟩) hSw ?rest35
               case hy35 =>
                 intro w hw
                 obtain ⟨⟨a0, a1, a2, a3, a4, a5⟩, ⟨b0, b1', b2, b3, b4, b5⟩, ⟨c0, c1, c2, c3, c4, c5⟩⟩ := hw
                 go_simp
                 try with_reducible rfl)
          try simp only [Act.put, List.getElem_toArray, List.getElem_cons_zero, List.getElem_cons_succ, List.setIfInBounds_toArray, List.set_cons_zero, List.set_cons_succ]
          first
            | refine wpAnyH_take (i := 36) rfl (by kernel_rfl) (by kernel_rfl) (by kernel_rfl) (fun _ _ _ h => h) (Or.inr ⟨by rfl, rfl⟩) hSw ?_
            | (refine wpAnyH_take (i := 36) (v := ?v36) rfl (by kernel_rfl) (by kernel_rfl) (by kernel_rfl) (fun _ _ _ h => h) (Or.inl ⟨by rfl, ?hy36⟩) hSw ?rest36
               case hy36 =>
                 intro w hw
                 obtain ⟨⟨a0, a1, a2, a3, a4, a5⟩, ⟨b0, b1', b2, b3, b4, b5⟩, ⟨c0, c1, c2, c3, c4, c5⟩⟩ := hw
                 go_simp
                 try with_reducible rfl)
          try simp only [Act.put, List.getElem_toArray, List.getElem_cons_zero, List.getElem_cons_succ, List.setIfInBounds_toArray, List.set_cons_zero, List.set_cons_succ]
          first
            | refine wpAnyH_take (i := 37) rfl (by kernel_rfl) (by kernel_rfl) (by kernel_rfl) (fun _ _ _ h => h) (Or.inr ⟨by rfl, rfl⟩) hSw ?_
            | (refine wpAnyH_take (i := 37) (v := ?v37) rfl (by kernel_rfl) (by kernel_rfl) (by kernel_rfl) (fun _ _ _ h => h) (Or.inl ⟨by rfl, ?hy37⟩) hSw ?rest37
               case hy37 =>
                 intro w hw
                 obtain ⟨⟨a0, a1, a2, a3, a4, a5⟩, ⟨b0, b1', b2, b3, b4, b5⟩, ⟨c0, c1, c2, c3, c4, c5⟩⟩ := hw
                 go_simp
                 try with_reducible rfl)
          try simp only [Act.put, List.getElem_toArray, List.getElem_cons_zero, List.getElem_cons_succ, List.setIfInBounds_toArray, List.set_cons_zero, List.set_cons_succ]
          first
            | refine wpAnyH_take (i := 38) rfl (by kernel_rfl) (by kernel_rfl) (by kernel_rfl) (fun _ _ _ h => h) (Or.inr ⟨by rfl, rfl⟩) hSw ?_
            | (refine wpAnyH_take (i := 38) (v := ?v38) rfl (by kernel_rfl) (by kernel_rfl) (by kernel_rfl) (fun _ _ _ h => h) (Or.inl ⟨by rfl, ?hy38⟩) hSw ?rest38
               case hy38 =>
                 intro w hw
                 obtain ⟨⟨a0, a1, a2, a3, a4, a5⟩, ⟨b0, b1', b2, b3, b4, b5⟩, ⟨c0, c1, c2, c3, c4, c5⟩⟩ := hw
                 go_simp
                 try with_reducible rfl)
          try simp only [Act.put, List.getElem_toArray, List.getElem_cons_zero, List.getElem_cons_succ, List.setIfInBounds_toArray, List.set_cons_zero, List.set_cons_succ]
          first
            | refine wpAnyH_take (i := 39) rfl (by kernel_rfl) (by kernel_rfl) (by kernel_rfl) (fun _ _ _ h => h) (Or.inr ⟨by rfl, rfl⟩) hSw ?_
            | (refine wpAnyH_take (i := 39) (v := ?v39) rfl (by kernel_rfl) (by kernel_rfl) (by kernel_rfl) (fun _ _ _ h => h) (Or.inl ⟨by rfl, ?hy39⟩) hSw ?rest39
               case hy39 =>
                 intro w hw
                 obtain ⟨⟨a0, a1, a2, a3, a4, a5⟩, ⟨b0, b1', b2, b3, b4, b5⟩, ⟨c0, c1, c2, c3, c4, c5⟩⟩ := hw
                 go_simp
                 try with_reducible rfl)
          try simp only [Act.put, List.getElem_toArray, List.getElem_cons_zero, List.getElem_cons_succ, List.setIfInBounds_toArray, List.set_cons_zero, List.set_cons_succ]
          first
            | refine wpAnyH_take (i := 40) rfl (by kernel_rfl) (by kernel_rfl) (by kernel_rfl) (fun _ _ _ h => h) (Or.inr ⟨by rfl, rfl⟩) hSw ?_
            | (refine wpAnyH_take (i := 40) (v := ?v40) rfl (by kernel_rfl) (by kernel_rfl) (by kernel_rfl) (fun _ _ _ h => h) (Or.inl ⟨by rfl, ?hy40⟩) hSw ?rest40
               case hy40 =>
                 intro w hw
                 obtain ⟨⟨a0, a1, a2, a3, a4, a5⟩, ⟨b0, b1', b2, b3, b4, b5⟩, ⟨c0, c1, c2, c3, c4, c5⟩⟩ := hw
                 go_simp
                 try with_reducible rfl)
          try simp only [Act.put, List.getElem_toArray, List.getElem_cons_zero, List.getElem_cons_succ, List.setIfInBounds_toArray, List.set_cons_zero, List.set_cons_succ]
          first
            | refine wpAnyH_take (i := 41) rfl (by kernel_rfl) (by kernel_rfl) (by kernel_rfl) (fun _ _ _ h => h) (Or.inr ⟨by rfl, rfl⟩) hSw ?_
            | (refine wpAnyH_take (i := 41) (v := ?v41) rfl (by kernel_rfl) (by kernel_rfl) (by kernel_rfl) (fun _ _ _ h => h) (Or.inl ⟨by rfl, ?hy41⟩) hSw ?rest41
               case hy41 =>
                 intro w hw
                 obtain ⟨⟨a0, a1, a2, a3, a4, a5⟩, ⟨b0, b1', b2, b3, b4, b5⟩, ⟨c0, c1, c2, c3, c4, c5⟩⟩ := hw
                 go_simp
                 try with_reducible rfl)
          try simp only [Act.put, List.getElem_toArray, List.getElem_cons_zero, List.getElem_cons_succ, List.setIfInBounds_toArray, List.set_cons_zero, List.set_cons_succ]
          first
            | refine wpAnyH_take (i := 42) rfl (by kernel_rfl) (by kernel_rfl) (by kernel_rfl) (fun _ _ _ h => h) (Or.inr ⟨by rfl, rfl⟩) hSw ?_
            | (refine wpAnyH_take (i := 42) (v := ?v42) rfl (by kernel_rfl) (by kernel_rfl) (by kernel_rfl) (fun _ _ _ h => h) (Or.inl ⟨by rfl, ?hy42⟩) hSw ?rest42
               case hy42 =>
                 intro w hw
                 obtain ⟨⟨a0, a1, a2, a3, a4, a5⟩, ⟨b0, b1', b2, b3, b4, b5⟩, ⟨c0, c1, c2, c3, c4, c5⟩⟩ := hw
                 go_simp
                 try with_reducible rfl)
          try simp only [Act.put, List.getElem_toArray, List.getElem_cons_zero, List.getElem_cons_succ, List.setIfInBounds_toArray, List.set_cons_zero, List.set_cons_succ]
          first
            | refine wpAnyH_take (i := 43) rfl (by kernel_rfl) (by kernel_rfl) (by kernel_rfl) (fun _ _ _ h => h) (Or.inr ⟨by rfl, rfl⟩) hSw ?_
            | (refine wpAnyH_take (i := 43) (v := ?v43) rfl (by kernel_rfl) (by kernel_rfl) (by kernel_rfl) (fun _ _ _ h => h) (Or.inl ⟨by rfl, ?hy43⟩) hSw ?rest43
               case hy43 =>
                 intro w hw
                 obtain ⟨⟨a0, a1, a2, a3, a4, a5⟩, ⟨b0, b1', b2, b3, b4, b5⟩, ⟨c0, c1, c2, c3, c4, c5⟩⟩ := hw
                 go_simp
                 try with_reducible rfl)
          try simp only [Act.put, List.getElem_toArray, List.getElem_cons_zero, List.getElem_cons_succ, List.setIfInBounds_toArray, List.set_cons_zero, List.set_cons_succ]
          first
            | refine wpAnyH_take (i := 44) rfl (by kernel_rfl) (by kernel_rfl) (by kernel_rfl) (fun _ _ _ h => h) (Or.inr ⟨by rfl, rfl⟩) hSw ?_
            | (refine wpAnyH_take (i := 44) (v := ?v44) rfl (by kernel_rfl) (by kernel_rfl) (by kernel_rfl) (fun _ _ _ h => h) (Or.inl ⟨by rfl, ?hy44⟩) hSw ?rest44
               case hy44 =>
                 intro w hw
                 obtain ⟨⟨a0, a1, a2, a3, a4, a5⟩, ⟨b0, b1', b2, b3, b4, b5⟩, ⟨c0, c1, c2, c3, c4, c5⟩⟩ := hw
                 go_simp
                 try with_reducible rfl)
          try simp only [Act.put, List.getElem_toArray, List.getElem_cons_zero, List.getElem_cons_succ, List.setIfInBounds_toArray, List.set_cons_zero, List.set_cons_succ]
          first
            | refine wpAnyH_take (i := 45) rfl (by kernel_rfl) (by kernel_rfl) (by kernel_rfl) (fun _ _ _ h => h) (Or.inr ⟨by rfl, rfl⟩) hSw ?_
            | (refine wpAnyH_take (i := 45) (v := ?v45) rfl (by kernel_rfl) (by kernel_rfl) (by kernel_rfl) (fun _ _ _ h => h) (Or.inl ⟨by rfl, ?hy45⟩) hSw ?rest45
               case hy45 =>
                 intro w hw
                 obtain ⟨⟨a0, a1, a2, a3, a4, a5⟩, ⟨b0, b1', b2, b3, b4, b5⟩, ⟨c0, c1, c2, c3, c4, c5⟩⟩ := hw
                 go_simp
                 try with_reducible rfl)
          try simp only [Act.put, List.getElem_toArray, List.getElem_cons_zero, List.getElem_cons_succ, List.setIfInBounds_toArray, List.set_cons_zero, List.set_cons_succ]
          first
            | refine wpAnyH_take (i := 46) rfl (by kernel_rfl) (by kernel_rfl) (by kernel_rfl) (fun _ _ _ h => h) (Or.inr ⟨by rfl, rfl⟩) hSw ?_
            | (refine wpAnyH_take (i := 46) (v := ?v46) rfl (by kernel_rfl) (by kernel_rfl) (by kernel_rfl) (fun _ _ _ h => h) (Or.inl ⟨by rfl, ?hy46⟩) hSw ?rest46
               case hy46 =>
                 intro w hw
                 obtain ⟨⟨a0, a1, a2, a3, a4, a5⟩, ⟨b0, b1', b2, b3, b4, b5⟩, ⟨c0, c1, c2, c3, c4, c5⟩⟩ := hw
                 go_simp
                 try with_reducible rfl)
          try simp only [Act.put, List.getElem_toArray, List.getElem_cons_zero, List.getElem_cons_succ, List.setIfInBounds_toArray, List.set_cons_zero, List.set_cons_succ]
          first
            | refine wpAnyH_take (i := 47) rfl (by kernel_rfl) (by kernel_rfl) (by kernel_rfl) (fun _ _ _ h => h) (Or.inr ⟨by rfl, rfl⟩) hSw ?_
            | (refine wpAnyH_take (i := 47) (v := ?v47) rfl (by kernel_rfl) (by kernel_rfl) (by kernel_rfl) (fun _ _ _ h => h) (Or.inl ⟨by rfl, ?hy47⟩) hSw ?rest47
               case hy47 =>
                 intro w hw
                 obtain ⟨⟨a0, a1, a2, a3, a4, a5⟩, ⟨b0, b1', b2, b3, b4, b5⟩, ⟨c0, c1, c2, c3, c4, c5⟩⟩ := hw
                 go_simp
                 try with_reducible rfl)
          try simp only [Act.put, List.getElem_toArray, List.getElem_cons_zero, List.getElem_cons_succ, List.setIfInBounds_toArray, List.set_cons_zero, List.set_cons_succ]
          first
            | refine wpAnyH_take (i := 48) rfl (by kernel_rfl) (by kernel_rfl) (by kernel_rfl) (fun _ _ _ h => h) (Or.inr ⟨by rfl, rfl⟩) hSw ?_
            | (refine wpAnyH_take (i := 48) (v := ?v48) rfl (by kernel_rfl) (by kernel_rfl) (by kernel_rfl) (fun _ _ _ h => h) (Or.inl ⟨by rfl, ?hy48⟩) hSw ?rest48
               case hy48 =>
                 intro w hw
                 obtain ⟨⟨a0, a1, a2, a3, a4, a5⟩, ⟨b0, b1', b2, b3, b4, b5⟩, ⟨c0, c1, c2, c3, c4, c5⟩⟩ := hw
                 go_simp
                 try with_reducible rfl)
          try simp only [Act.put, List.getElem_toArray, List.getElem_cons_zero, List.getElem_cons_succ, List.setIfInBounds_toArray, List.set_cons_zero, List.set_cons_succ]
          first
            | refine wpAnyH_take (i := 49) rfl (by kernel_rfl) (by kernel_rfl) (by kernel_rfl) (fun _ _ _ h => h) (Or.inr ⟨by rfl, rfl⟩) hSw ?_
            | (refine wpAnyH_take (i := 49) (v := ?v49) rfl (by kernel_rfl) (by kernel_rfl) (by kernel_rfl) (fun _ _ _ h => h) (Or.inl ⟨by rfl, ?hy49⟩) hSw ?rest49
               case hy49 =>
                 intro w hw
                 obtain ⟨⟨a0, a1, a2, a3, a4, a5⟩, ⟨b0, b1', b2, b3, b4, b5⟩, ⟨c0, c1, c2, c3, c4, c5⟩⟩ := hw
                 go_simp
                 try with_reducible rfl)
          try simp only [Act.put, List.getElem_toArray, List.getElem_cons_zero, List.getElem_cons_succ, List.setIfInBounds_toArray, List.set_cons_zero, List.set_cons_succ]
          first
            | refine wpAnyH_take (i := 50) rfl (by kernel_rfl) (by kernel_rfl) (by kernel_rfl) (fun _ _ _ h => h) (Or.inr ⟨by rfl, rfl⟩) hSw ?_
            | (refine wpAnyH_take (i := 50) (v := ?v50) rfl (by kernel_rfl) (by kernel_rfl) (by kernel_rfl) (fun _ _ _ h => h) (Or.inl ⟨by rfl, ?hy50⟩) hSw ?rest50
               case hy50 =>
                 intro w hw
                 obtain ⟨⟨a0, a1, a2, a3, a4, a5⟩, ⟨b0, b1', b2, b3, b4, b5⟩, ⟨c0, c1, c2, c3, c4, c5⟩⟩ := hw
                 go_simp
                 try with_reducible rfl)
          try simp only [Act.put, List.getElem_toArray, List.getElem_cons_zero, List.getElem_cons_succ, List.setIfInBounds_toArray, List.set_cons_zero, List.set_cons_succ]
          first
            | refine wpAnyH_take (i := 51) rfl (by kernel_rfl) (by kernel_rfl) (by kernel_rfl) (fun _ _ _ h => h) (Or.inr ⟨by rfl, rfl⟩) hSw ?_
            | (refine wpAnyH_take (i := 51) (v := ?v51) rfl (by kernel_rfl) (by kernel_rfl) (by kernel_rfl) (fun _ _ _ h => h) (Or.inl ⟨by rfl, ?hy51⟩) hSw ?rest51
               case hy51 =>
                 intro w hw
                 obtain ⟨⟨a0, a1, a2, a3, a4, a5⟩, ⟨b0, b1', b2, b3, b4, b5⟩, ⟨c0, c1, c2, c3, c4, c5⟩⟩ := hw
                 go_simp
                 try with_reducible rfl)
          try simp only [Act.put, List.getElem_toArray, List.getElem_cons_zero, List.getElem_cons_succ, List.setIfInBounds_toArray, List.set_cons_zero, List.set_cons_succ]
          first
            | refine wpAnyH_take (i := 52) rfl (by kernel_rfl) (by kernel_rfl) (by kernel_rfl) (fun _ _ _ h => h) (Or.inr ⟨by rfl, rfl⟩) hSw ?_
            | (refine wpAnyH_take (i := 52) (v := ?v52) rfl (by kernel_rfl) (by kernel_rfl) (by kernel_rfl) (fun _ _ _ h => h) (Or.inl ⟨by rfl, ?hy52⟩) hSw ?rest52
               case hy52 =>
                 intro w hw
                 obtain ⟨⟨a0, a1, a2, a3, a4, a5⟩, ⟨b0, b1', b2, b3, b4, b5⟩, ⟨c0, c1, c2, c3, c4, c5⟩⟩ := hw
                 go_simp
                 try with_reducible rfl)
          try simp only [Act.put, List.getElem_toArray, List.getElem_cons_zero, List.getElem_cons_succ, List.setIfInBounds_toArray, List.set_cons_zero, List.set_cons_succ]
          first
            | refine wpAnyH_take (i := 53) rfl (by kernel_rfl) (by kernel_rfl) (by kernel_rfl) (fun _ _ _ h => h) (Or.inr ⟨by rfl, rfl⟩) hSw ?_
            | (refine wpAnyH_take (i := 53) (v := ?v53) rfl (by kernel_rfl) (by kernel_rfl) (by kernel_rfl) (fun _ _ _ h => h) (Or.inl ⟨by rfl, ?hy53⟩) hSw ?rest53
               case hy53 =>
                 intro w hw
                 obtain ⟨⟨a0, a1, a2, a3, a4, a5⟩, ⟨b0, b1', b2, b3, b4, b5⟩, ⟨c0, c1, c2, c3, c4, c5⟩⟩ := hw
                 go_simp
                 try with_reducible rfl)
          try simp only [Act.put, List.getElem_toArray, List.getElem_cons_zero, List.getElem_cons_succ, List.setIfInBounds_toArray, List.set_cons_zero, List.set_cons_succ]
          first
            | refine wpAnyH_take (i := 54) rfl (by kernel_rfl) (by kernel_rfl) (by kernel_rfl) (fun _ _ _ h => h) (Or.inr ⟨by rfl, rfl⟩) hSw ?_
            | (refine wpAnyH_take (i := 54) (v := ?v54) rfl (by kernel_rfl) (by kernel_rfl) (by kernel_rfl) (fun _ _ _ h => h) (Or.inl ⟨by rfl, ?hy54⟩) hSw ?rest54
               case hy54 =>
                 intro w hw
                 obtain ⟨⟨a0, a1, a2, a3, a4, a5⟩, ⟨b0, b1', b2, b3, b4, b5⟩, ⟨c0, c1, c2, c3, c4, c5⟩⟩ := hw
                 go_simp
                 try with_reducible rfl)
          try simp only [Act.put, List.getElem_toArray, List.getElem_cons_zero, List.getElem_cons_succ, List.setIfInBounds_toArray, List.set_cons_zero, List.set_cons_succ]
          first
            | refine wpAnyH_take (i := 55) rfl (by kernel_rfl) (by kernel_rfl) (by kernel_rfl) (fun _ _ _ h => h) (Or.inr ⟨by rfl, rfl⟩) hSw ?_
            | (refine wpAnyH_take (i := 55) (v := ?v55) rfl (by kernel_rfl) (by kernel_rfl) (by kernel_rfl) (fun _ _ _ h => h) (Or.inl ⟨by rfl, ?hy55⟩) hSw ?rest55
               case hy55 =>
                 intro w hw
                 obtain ⟨⟨a0, a1, a2, a3, a4, a5⟩, ⟨b0, b1', b2, b3, b4, b5⟩, ⟨c0, c1, c2, c3, c4, c5⟩⟩ := hw
                 go_simp
                 try with_reducible rfl)
          try simp only [Act.put, List.getElem_toArray, List.getElem_cons_zero, List.getElem_cons_succ, List.setIfInBounds_toArray, List.set_cons_zero, List.set_cons_succ]
          first
            | refine wpAnyH_take (i := 56) rfl (by kernel_rfl) (by kernel_rfl) (by kernel_rfl) (fun _ _ _ h => h) (Or.inr ⟨by rfl, rfl⟩) hSw ?_
            | (refine wpAnyH_take (i := 56) (v := ?v56) rfl (by kernel_rfl) (by kernel_rfl) (by kernel_rfl) (fun _ _ _ h => h) (Or.inl ⟨by rfl, ?hy56⟩) hSw ?rest56
               case hy56 =>
                 intro w hw
                 obtain ⟨⟨a0, a1, a2, a3, a4, a5⟩, ⟨b0, b1', b2, b3, b4, b5⟩, ⟨c0, c1, c2, c3, c4, c5⟩⟩ := hw
                 go_simp
                 try with_reducible rfl)
          try simp only [Act.put, List.getElem_toArray, List.getElem_cons_zero, List.getElem_cons_succ, List.setIfInBounds_toArray, List.set_cons_zero, List.set_cons_succ]
          first
            | refine wpAnyH_take (i := 57) rfl (by kernel_rfl) (by kernel_rfl) (by kernel_rfl) (fun _ _ _ h => h) (Or.inr ⟨by rfl, rfl⟩) hSw ?_
            | (refine wpAnyH_take (i := 57) (v := ?v57) rfl (by kernel_rfl) (by kernel_rfl) (by kernel_rfl) (fun _ _ _ h => h) (Or.inl ⟨by rfl, ?hy57⟩) hSw ?rest57
               case hy57 =>
                 intro w hw
                 obtain ⟨⟨a0, a1, a2, a3, a4, a5⟩, ⟨b0, b1', b2, b3, b4, b5⟩, ⟨c0, c1, c2, c3, c4, c5⟩⟩ := hw
                 go_simp
                 try with_reducible rfl)
          try simp only [Act.put, List.getElem_toArray, List.getElem_cons_zero, List.getElem_cons_succ, List.setIfInBounds_toArray, List.set_cons_zero, List.set_cons_succ]
          first
            | refine wpAnyH_take (i := 58) rfl (by kernel_rfl) (by kernel_rfl) (by kernel_rfl) (fun _ _ _ h => h) (Or.inr ⟨by rfl, rfl⟩) hSw ?_
            | (refine wpAnyH_take (i := 58) (v := ?v58) rfl (by kernel_rfl) (by kernel_rfl) (by kernel_rfl) (fun _ _ _ h => h) (Or.inl ⟨by rfl, ?hy58⟩) hSw ?rest58
               case hy58 =>
                 intro w hw
                 obtain ⟨⟨a0, a1, a2, a3, a4, a5⟩, ⟨b0, b1', b2, b3, b4, b5⟩, ⟨c0, c1, c2, c3, c4, c5⟩⟩ := hw
                 go_simp
                 try with_reducible rfl)
          try simp only [Act.put, List.getElem_toArray, List.getElem_cons_zero, List.getElem_cons_succ, List.setIfInBounds_toArray, List.set_cons_zero, List.set_cons_succ]
          first
            | refine wpAnyH_take (i := 59) rfl (by kernel_rfl) (by kernel_rfl) (by kernel_rfl) (fun _ _ _ h => h) (Or.inr ⟨by rfl, rfl⟩) hSw ?_
            | (refine wpAnyH_take (i := 59) (v := ?v59) rfl (by kernel_rfl) (by kernel_rfl) (by kernel_rfl) (fun _ _ _ h => h) (Or.inl ⟨by rfl, ?hy59⟩) hSw ?rest59
               case hy59 =>
                 intro w hw
                 obtain ⟨⟨a0, a1, a2, a3, a4, a5⟩, ⟨b0, b1', b2, b3, b4, b5⟩, ⟨c0, c1, c2, c3, c4, c5⟩⟩ := hw
                 go_simp
                 try with_reducible rfl)
          try simp only [Act.put, List.getElem_toArray, List.getElem_cons_zero, List.getElem_cons_succ, List.setIfInBounds_toArray, List.set_cons_zero, List.set_cons_succ]
          refine wpAnyH_ready (rs := [60]) (by kernel_rfl) (by simp) ?_
          refine AllReadyH.cons rfl (fun K hK => ?_) AllReadyH.nil
          rw [if_pos (by kernel_rfl)]
          go_simp
          (go_at_call 14; ((with_reducible refine (HRd.out _).mono ?_); rintro e w9 ⟨rfl, h9⟩; have HU9 := Lib.hid (HUc.out.trans ((Up.drew _).trans h9))))
          try go_wp2
          refine hK.out _ _ ⟨hSw.1.up h9, hSw.2.1.up h9, hSw.2.2.up h9⟩ (fun hSw2 => ?_)
          clear hK K h9 hSw
          try simp only [Act.put, List.getElem_toArray, List.getElem_cons_zero, List.getElem_cons_succ, List.setIfInBounds_toArray, List.set_cons_zero, List.set_cons_succ]
          refine wpAnyH_take (i := 61) (v := ?v61) rfl (by kernel_rfl) (by kernel_rfl) (by kernel_rfl) (fun _ _ _ h => h) (Or.inl ⟨by rfl, ?hy61⟩) hSw2 ?rest61
          case hy61 =>
            intro w hw
            go_simp
            try with_reducible rfl
          try simp only [Act.put, List.getElem_toArray, List.getElem_cons_zero, List.getElem_cons_succ, List.setIfInBounds_toArray, List.set_cons_zero, List.set_cons_succ]
          refine wpAnyH_take (i := 62) (v := ?v62) rfl (by kernel_rfl) (by kernel_rfl) (by kernel_rfl) (fun _ _ _ h => h) (Or.inl ⟨by rfl, ?hy62⟩) hSw2 ?rest62
          case hy62 =>
            intro w hw
            go_simp
            try with_reducible rfl
          try simp only [Act.put, List.getElem_toArray, List.getElem_cons_zero, List.getElem_cons_succ, List.setIfInBounds_toArray, List.set_cons_zero, List.set_cons_succ]
          refine wpAnyH_done (by kernel_rfl) ?_ _
          all_goals
            go_wp2
            go_ret
            exact ⟨rfl, HU9.out⟩
set_option linter.unusedVariables false in
set_option maxRecDepth 100000 in
set_option maxHeartbeats 8000000 in
theorem rows_d (w : World) (x y z : Int) (j q r c n : Nat) (cb : UInt8) (hj : x.tmod 6 = (j : Nat)) (hq : y.tmod 60 = (q : Nat)) (hr : z.tmod 5 = (r : Nat)) (hj6 : j < 6) (hq60 : q < 60) (hr5 : r < 5) (hcb : chS.extract j (j + 1) = ⟨#[cb]⟩) (hcn : cb.toNat = c) (hn : 1 + q = n)
    (HR0 : ∀ (X : ByteArray) (W : World), bl X = rowS c n r → Calls Tryd.prog 7 #[.string X, .int .i64 0] W fun e w' => e = .returned (.tuple #[.agg #[.int .u8 0, .int .i64 0, .int .i64 0, .int .i64 0, .int .i64 0, .int .i64 0], .bool false]) ∧ Up W w')
    (HU0 : ∀ (X : ByteArray) (W : World), bl X = rowS c n r → Calls Tryd.prog 9 #[.string X, .int .i64 0] W fun e w' => e = .returned (.tuple #[.agg #[.int .u8 (c : Nat), .int .i64 (n : Nat), .int .i64 0, .int .i64 0, .int .i64 0, .int .i64 (n : Nat)], .bool true]) ∧ Up W w')
    (HF0 : ∀ (X : ByteArray) (W : World), bl X = rowS c n r ++ [10] → Calls Tryd.prog 10 #[.string X, .int .i64 0] W fun e w' => e = .returned (.tuple #[.agg #[.int .u8 0, .int .i64 0, .int .i64 0, .int .i64 0, .int .i64 0, .int .i64 0], .bool false]) ∧ Up W w') (q1 : 3 ≤ j) (q2 : j ≠ 1) (q3 : j = 3) (q4 : ¬ 3 < j) (q5 : ¬ 3 ≤ n) :
    Calls Tryd.prog 5 #[.int .u8 x, .int .u8 y, .int .u8 z] w fun e w' => e = .returned (.bool true) ∧ Up w w' := by
  have q1' : ¬ ((j : Int) < 3) := by omega
  have q2' : ((j : Int) == 1) = false := beq_eq_false_iff_ne.2 (by omega)
  have q3' : ((j : Int) == 3) = true := by rw [q3]; rfl
  have q4' : ¬ ((3 : Int) < (j : Int)) := by omega
  have q5' : ¬ ((3 : Int) ≤ (n : Int)) := by omega
  have hcv := conv96 w
  have HRd := Lib.hid (fun W => reads_any W)
  have HRu := Lib.hid HR0
  have HUn := Lib.hid HU0
  have HFe := Lib.hid HF0
  have hsl : (({ data := #[42, 45, 95, 61, 126] } : ByteArray) ++ { data := #[96] }).extract j (j + 1) = ⟨#[cb]⟩ := hcb
  have hs0 : ((({ data := #[42, 45, 95, 61, 126] } : ByteArray) ++ { data := #[96] }).size : Int) = 6 := rfl
  have hs1 : (({ data := #[42, 45, 95, 61, 126] } : ByteArray) ++ { data := #[96] }).size = 6 := rfl
  have j0 : (0 : Int) ≤ (j : Int) := by omega
  have j1 : (j : Int) ≤ (j : Int) + 1 := by omega
  have j2 : (j : Int) + 1 ≤ 6 := by omega
  have e1 : ((j : Int) + 1) % 256 = (j : Int) + 1 := by omega
  have HE4 := Lib.hid (show IntKind.i64.wrap (r : Int) = (r : Nat) from IntWalk.i64_in _ (by omega))
  have HQ := Lib.hid (And.intro hj6 (And.intro hq60 (And.intro hr5 (And.intro hcn hn))))
  have e2 : IntKind.i64.wrap (q : Int) = (q : Nat) := IntWalk.i64_in _ (by omega)
  have e3 : IntKind.i64.wrap (1 + (q : Int)) = ((1 + q : Nat) : Int) := (IntWalk.i64_in _ (by omega)).trans (by omega)
  clear q1 q2 q3 q4 q5
  clear hj6 hq60 hr5 hcn hcb HR0 HU0 HF0 hn
  go_enter Tryd.func5, Tryd.ntmps5
  go_upto_region 4 with fail
  obtain ⟨a6, a60, a5, hcn, hn⟩ := HQ.out
  have hn2 : (1 + (q : Int)) = (n : Int) := by omega
  rw [hn2]
  obtain ⟨W1, hW1⟩ : ∃ W1, w.alloc (.cells #[.int .u8 96] 5) = W1 := ⟨_, rfl⟩
  have HU1 := Lib.hid (show Up w W1 by rw [← hW1]; exact Up.alloc _ _)
  rw [hW1]
  generalize (({ data := #[42, 45, 95, 61, 126] } : ByteArray) ++ { data := #[96] }) = T0 at *
  obtain ⟨S, hS⟩ : ∃ S : ByteArray, ⟨#[cb]⟩ = S := ⟨_, rfl⟩
  have hS1 : S.size = 1 := by rw [← hS]; rfl
  have hSb : bl S = [c] := by rw [← hS, bl_one, hcn]
  have p1 : (0 : Int) < S.size := by omega
  have hS0 : S[0].toNat = c := by
    have h1 := bl_at (s := S) (i := 0) (by omega)
    rw [hSb] at h1
    rw [bt_eq (by omega)]
    exact (Option.some.inj h1).symm
  rw [hS]
  have HSb := Lib.hid hSb
  have hn60 : n ≤ 60 := by omega
  have HN := Lib.hid (And.intro hn60 (And.intro a5 (show 0 < n by omega)))
  clear hcv hsl hs0 hs1 j0 j1 j2 e1 e2 e3 hW1 hn2 a6 a60 a5 hcn hn hS hSb hn60 hq HQ
  go_wp2
  go_loopg [10, 11] n (fun g lv iv wr => W1 = wr ∧ ∃ (X : ByteArray) (i : Nat), g = n - i ∧ lv = .string X ∧ iv = .int .i64 (i : Nat) ∧ Hid (i ≤ n) ∧ Hid (bl X = List.replicate i c))
  case atStart => exact ⟨rfl, ⟨#[]⟩, 0, rfl, rfl, rfl, Lib.hid (Nat.zero_le _), Lib.hid rfl⟩
  case round =>
    obtain ⟨rfl, X, i, hg, rfl, rfl, HI, HX⟩ := hrel
    have HG := Lib.hid hg
    clear hg
    have hXs : X.size = i := by rw [← bl_len, HX.out, List.length_replicate]
    by_cases hlt : i < n
    · have k1 : (i : Int) < (n : Int) := by omega
      have b1 : ¬ 9223372036854775807 < X.size + S.size := by have := HN.out; omega
      have HX2 := Lib.hid (bl_snoc_rep HX.out HSb.out)
      have HI2 := Lib.hid (show i + 1 ≤ n from hlt)
      have HE := Lib.hid (show IntKind.i64.wrap ((i : Int) + 1) = (i : Int) + 1 from IntWalk.i64_in _ (by have := HN.out; omega))
      obtain ⟨zz, hzz⟩ : ∃ zz, X.size = zz := ⟨_, rfl⟩
      clear hXs hlt
      have e1 := HE.out
      go_wp2
      go_roundg (n - (i + 1))
      case measure => rw [HG.out]; have := HI2.out; omega
      case rel => exact ⟨rfl, X ++ S, i + 1, rfl, rfl, by go_num, HI2, HX2⟩
    · have hin : i = n := by have := HI.out; omega
      have f2' : decide ((i : Int) < (n : Int)) = false := decide_eq_false (by omega)
      have f3' : decide (i < n) = false := decide_eq_false hlt
      have HX0 := Lib.hid (show bl X = rowS c n 0 by rw [HX.out, hin]; unfold rowS; simp)
      clear hXs hin hlt
      go_wp2
      go_loopg [10, 12] r (fun g lv iv wr => W1 = wr ∧ ∃ (X : ByteArray) (i : Nat), g = r - i ∧ lv = .string X ∧ iv = .int .i64 (i : Nat) ∧ Hid (i ≤ r) ∧ Hid (bl X = rowS c n i))
      case atStart => exact ⟨rfl, X, 0, rfl, rfl, rfl, Lib.hid (Nat.zero_le _), HX0⟩
      case round =>
        obtain ⟨rfl, X, i, hg, rfl, rfl, HI, HX⟩ := hrel
        have HG := Lib.hid hg
        clear hg
        have hXs : X.size = n + i := by rw [← bl_len, HX.out]; unfold rowS; simp
        by_cases hlt : i < r
        · have k1 : (i : Int) < (r : Int) := by omega
          have b1 : ¬ 9223372036854775807 < X.size + 1 := by have := HN.out; omega
          have HX2 := Lib.hid (bl_snoc_row HX.out)
          have HI2 := Lib.hid (show i + 1 ≤ r from hlt)
          have HE := Lib.hid (show IntKind.i64.wrap ((i : Int) + 1) = (i : Int) + 1 from IntWalk.i64_in _ (by have := HN.out; omega))
          clear hXs hlt
          have e1 := HE.out
          have e4 := HE4.out
          go_wp2
          go_roundg (r - (i + 1))
          case measure => rw [HG.out]; have := HI2.out; omega
          case rel => exact ⟨rfl, X ++ ⟨#[32]⟩, i + 1, rfl, rfl, by go_num, HI2, HX2⟩
        · have hin : i = r := by have := HI.out; omega
          have g2' : decide ((i : Int) < (r : Int)) = false := decide_eq_false (by omega)
          have g3' : decide (i < r) = false := decide_eq_false hlt
          have b1 : ¬ 9223372036854775807 < X.size + 1 := by have := HN.out; omega
          have HXr := Lib.hid (show bl X = rowS c n r by rw [HX.out, hin])
          have HX10 := Lib.hid (show bl (X ++ ⟨#[10]⟩) = rowS c n r ++ [10] by rw [bl_append, HXr.out]; rfl)
          clear hXs hin hlt
          have e4 := HE4.out
          go_upto_region 18 with (first
            | (go_at_call 7; ((with_reducible refine (HRu.out _ _ HXr.out).mono ?_); rintro e w1 ⟨rfl, h1⟩; have HUa := Lib.hid ((HU1.out.trans h1).trans (Up.alloc w1 (.cells #[.int .u8 0, .int .i64 0, .int .i64 0, .int .i64 0, .int .i64 0, .int .i64 0] 23))); have HA1 := Lib.hid (six_new w1 23 (.int .u8 0) (.int .i64 0) (.int .i64 0) (.int .i64 0) (.int .i64 0) (.int .i64 0)); clear h1))
            | (go_at_call 9; ((with_reducible refine (HUn.out _ _ HXr.out).mono ?_); rintro e w2 ⟨rfl, h2⟩; have HA2 := Lib.hid ((HA1.out.up h2).up (Up.alloc w2 (.cells #[.int .u8 (c : Nat), .int .i64 (n : Nat), .int .i64 0, .int .i64 0, .int .i64 0, .int .i64 (n : Nat)] 23))); have HUb := Lib.hid ((HUa.out.trans h2).trans (Up.alloc w2 (.cells #[.int .u8 (c : Nat), .int .i64 (n : Nat), .int .i64 0, .int .i64 0, .int .i64 0, .int .i64 (n : Nat)] 23))); have HB2 := Lib.hid (six_new w2 23 (.int .u8 (c : Nat)) (.int .i64 (n : Nat)) (.int .i64 0) (.int .i64 0) (.int .i64 0) (.int .i64 (n : Nat))); clear h2))
            | (go_at_call 10; ((with_reducible refine (HFe.out _ _ HX10.out).mono ?_); rintro e w3 ⟨rfl, h3⟩; have HA3 := Lib.hid ((HA2.out.up h3).up (Up.alloc w3 (.cells #[.int .u8 0, .int .i64 0, .int .i64 0, .int .i64 0, .int .i64 0, .int .i64 0] 23))); have HB3 := Lib.hid ((HB2.out.up h3).up (Up.alloc w3 (.cells #[.int .u8 0, .int .i64 0, .int .i64 0, .int .i64 0, .int .i64 0, .int .i64 0] 23))); have HUc := Lib.hid ((HUb.out.trans h3).trans (Up.alloc w3 (.cells #[.int .u8 0, .int .i64 0, .int .i64 0, .int .i64 0, .int .i64 0, .int .i64 0] 23))); have HC3 := Lib.hid (six_new w3 23 (.int .u8 0) (.int .i64 0) (.int .i64 0) (.int .i64 0) (.int .i64 0) (.int .i64 0)); clear h3)))
          obtain ⟨W5, hW5⟩ : ∃ W5, w3.alloc (.cells #[.int .u8 0, .int .i64 0, .int .i64 0, .int .i64 0, .int .i64 0, .int .i64 0] 23) = W5 := ⟨_, rfl⟩
          rw [hW5] at HA3 HB3 HC3 HUc ⊢
          clear hW5 b1 e4 g2' g3'
          refine wp_region_held_drew (S := fun w' : World => Six w' w1.heap.size (.int .u8 0) (.int .i64 0) (.int .i64 0) (.int .i64 0) (.int .i64 0) (.int .i64 0) ∧ Six w' w2.heap.size (.int .u8 (c : Nat)) (.int .i64 (n : Nat)) (.int .i64 0) (.int .i64 0) (.int .i64 0) (.int .i64 (n : Nat)) ∧ Six w' w3.heap.size (.int .u8 0) (.int .i64 0) (.int .i64 0) (.int .i64 0) (.int .i64 0) (.int .i64 0)) (by kernel_rfl) ⟨HA3.out.up (Up.drew _), HB3.out.up (Up.drew _), HC3.out.up (Up.drew _)⟩ (fun hSw => ?_)
          first
            | refine wpAnyH_take (i := 0) rfl (by kernel_rfl) (by kernel_rfl) (by kernel_rfl) (fun _ _ _ h => h) (Or.inr ⟨by rfl, rfl⟩) hSw ?_
            | (refine wpAnyH_take (i := 0) (v := ?v0) rfl (by kernel_rfl) (by kernel_rfl) (by kernel_rfl) (fun _ _ _ h => h) (Or.inl ⟨by rfl, ?hy0⟩) hSw ?rest0
               case hy0 =>
                 intro w hw
                 obtain ⟨⟨a0, a1, a2, a3, a4, a5⟩, ⟨b0, b1', b2, b3, b4, b5⟩, ⟨c0, c1, c2, c3, c4, c5⟩⟩ := hw
                 go_simp
                 try with_reducible rfl)
          try simp only [Act.put, List.getElem_toArray, List.getElem_cons_zero, List.getElem_cons_succ, List.setIfInBounds_toArray, List.set_cons_zero, List.set_cons_succ]
          first
            | refine wpAnyH_take (i := 1) rfl (by kernel_rfl) (by kernel_rfl) (by kernel_rfl) (fun _ _ _ h => h) (Or.inr ⟨by rfl, rfl⟩) hSw ?_
            | (refine wpAnyH_take (i := 1) (v := ?v1) rfl (by kernel_rfl) (by kernel_rfl) (by kernel_rfl) (fun _ _ _ h => h) (Or.inl ⟨by rfl, ?hy1⟩) hSw ?rest1
               case hy1 =>
                 intro w hw
                 obtain ⟨⟨a0, a1, a2, a3, a4, a5⟩, ⟨b0, b1', b2, b3, b4, b5⟩, ⟨c0, c1, c2, c3, c4, c5⟩⟩ := hw
                 go_simp
                 try with_reducible rfl)
          try simp only [Act.put, List.getElem_toArray, List.getElem_cons_zero, List.getElem_cons_succ, List.setIfInBounds_toArray, List.set_cons_zero, List.set_cons_succ]
          first
            | refine wpAnyH_take (i := 2) rfl (by kernel_rfl) (by kernel_rfl) (by kernel_rfl) (fun _ _ _ h => h) (Or.inr ⟨by rfl, rfl⟩) hSw ?_
            | (refine wpAnyH_take (i := 2) (v := ?v2) rfl (by kernel_rfl) (by kernel_rfl) (by kernel_rfl) (fun _ _ _ h => h) (Or.inl ⟨by rfl, ?hy2⟩) hSw ?rest2
               case hy2 =>
                 intro w hw
                 obtain ⟨⟨a0, a1, a2, a3, a4, a5⟩, ⟨b0, b1', b2, b3, b4, b5⟩, ⟨c0, c1, c2, c3, c4, c5⟩⟩ := hw
                 go_simp
                 try with_reducible rfl)
          try simp only [Act.put, List.getElem_toArray, List.getElem_cons_zero, List.getElem_cons_succ, List.setIfInBounds_toArray, List.set_cons_zero, List.set_cons_succ]
          first
            | refine wpAnyH_take (i := 3) rfl (by kernel_rfl) (by kernel_rfl) (by kernel_rfl) (fun _ _ _ h => h) (Or.inr ⟨by rfl, rfl⟩) hSw ?_
            | (refine wpAnyH_take (i := 3) (v := ?v3) rfl (by kernel_rfl) (by kernel_rfl) (by kernel_rfl) (fun _ _ _ h => h) (Or.inl ⟨by rfl, ?hy3⟩) hSw ?rest3
               case hy3 =>
                 intro w hw
                 obtain ⟨⟨a0, a1, a2, a3, a4, a5⟩, ⟨b0, b1', b2, b3, b4, b5⟩, ⟨c0, c1, c2, c3, c4, c5⟩⟩ := hw
                 go_simp
                 try with_reducible rfl)
          try simp only [Act.put, List.getElem_toArray, List.getElem_cons_zero, List.getElem_cons_succ, List.setIfInBounds_toArray, List.set_cons_zero, List.set_cons_succ]
          first
            | refine wpAnyH_take (i := 4) rfl (by kernel_rfl) (by kernel_rfl) (by kernel_rfl) (fun _ _ _ h => h) (Or.inr ⟨by rfl, rfl⟩) hSw ?_
            | (refine wpAnyH_take (i := 4) (v := ?v4) rfl (by kernel_rfl) (by kernel_rfl) (by kernel_rfl) (fun _ _ _ h => h) (Or.inl ⟨by rfl, ?hy4⟩) hSw ?rest4
               case hy4 =>
                 intro w hw
                 obtain ⟨⟨a0, a1, a2, a3, a4, a5⟩, ⟨b0, b1', b2, b3, b4, b5⟩, ⟨c0, c1, c2, c3, c4, c5⟩⟩ := hw
                 go_simp
                 try with_reducible rfl)
          try simp only [Act.put, List.getElem_toArray, List.getElem_cons_zero, List.getElem_cons_succ, List.setIfInBounds_toArray, List.set_cons_zero, List.set_cons_succ]
          first
            | refine wpAnyH_take (i := 5) rfl (by kernel_rfl) (by kernel_rfl) (by kernel_rfl) (fun _ _ _ h => h) (Or.inr ⟨by rfl, rfl⟩) hSw ?_
            | (refine wpAnyH_take (i := 5) (v := ?v5) rfl (by kernel_rfl) (by kernel_rfl) (by kernel_rfl) (fun _ _ _ h => h) (Or.inl ⟨by rfl, ?hy5⟩) hSw ?rest5
               case hy5 =>
                 intro w hw
                 obtain ⟨⟨a0, a1, a2, a3, a4, a5⟩, ⟨b0, b1', b2, b3, b4, b5⟩, ⟨c0, c1, c2, c3, c4, c5⟩⟩ := hw
                 go_simp
                 try with_reducible rfl)
          try simp only [Act.put, List.getElem_toArray, List.getElem_cons_zero, List.getElem_cons_succ, List.setIfInBounds_toArray, List.set_cons_zero, List.set_cons_succ]
          first
            | refine wpAnyH_take (i := 6) rfl (by kernel_rfl) (by kernel_rfl) (by kernel_rfl) (fun _ _ _ h => h) (Or.inr ⟨by rfl, rfl⟩) hSw ?_
            | (refine wpAnyH_take (i := 6) (v := ?v6) rfl (by kernel_rfl) (by kernel_rfl) (by kernel_rfl) (fun _ _ _ h => h) (Or.inl ⟨by rfl, ?hy6⟩) hSw ?rest6
               case hy6 =>
                 intro w hw
                 obtain ⟨⟨a0, a1, a2, a3, a4, a5⟩, ⟨b0, b1', b2, b3, b4, b5⟩, ⟨c0, c1, c2, c3, c4, c5⟩⟩ := hw
                 go_simp
                 try with_reducible rfl)
          try simp only [Act.put, List.getElem_toArray, List.getElem_cons_zero, List.getElem_cons_succ, List.setIfInBounds_toArray, List.set_cons_zero, List.set_cons_succ]
          first
            | refine wpAnyH_take (i := 7) rfl (by kernel_rfl) (by kernel_rfl) (by kernel_rfl) (fun _ _ _ h => h) (Or.inr ⟨by rfl, rfl⟩) hSw ?_
            | (refine wpAnyH_take (i := 7) (v := ?v7) rfl (by kernel_rfl) (by kernel_rfl) (by kernel_rfl) (fun _ _ _ h => h) (Or.inl ⟨by rfl, ?hy7⟩) hSw ?rest7
               case hy7 =>
                 intro w hw
                 obtain ⟨⟨a0, a1, a2, a3, a4, a5⟩, ⟨b0, b1', b2, b3, b4, b5⟩, ⟨c0, c1, c2, c3, c4, c5⟩⟩ := hw
                 go_simp
                 try with_reducible rfl)
          try simp only [Act.put, List.getElem_toArray, List.getElem_cons_zero, List.getElem_cons_succ, List.setIfInBounds_toArray, List.set_cons_zero, List.set_cons_succ]
          first
            | refine wpAnyH_take (i := 8) rfl (by kernel_rfl) (by kernel_rfl) (by kernel_rfl) (fun _ _ _ h => h) (Or.inr ⟨by rfl, rfl⟩) hSw ?_
            | (refine wpAnyH_take (i := 8) (v := ?v8) rfl (by kernel_rfl) (by kernel_rfl) (by kernel_rfl) (fun _ _ _ h => h) (Or.inl ⟨by rfl, ?hy8⟩) hSw ?rest8
               case hy8 =>
                 intro w hw
                 obtain ⟨⟨a0, a1, a2, a3, a4, a5⟩, ⟨b0, b1', b2, b3, b4, b5⟩, ⟨c0, c1, c2, c3, c4, c5⟩⟩ := hw
                 go_simp
                 try with_reducible rfl)
          try simp only [Act.put, List.getElem_toArray, List.getElem_cons_zero, List.getElem_cons_succ, List.setIfInBounds_toArray, List.set_cons_zero, List.set_cons_succ]
          first
            | refine wpAnyH_take (i := 9) rfl (by kernel_rfl) (by kernel_rfl) (by kernel_rfl) (fun _ _ _ h => h) (Or.inr ⟨by rfl, rfl⟩) hSw ?_
            | (refine wpAnyH_take (i := 9) (v := ?v9) rfl (by kernel_rfl) (by kernel_rfl) (by kernel_rfl) (fun _ _ _ h => h) (Or.inl ⟨by rfl, ?hy9⟩) hSw ?rest9
               case hy9 =>
                 intro w hw
                 obtain ⟨⟨a0, a1, a2, a3, a4, a5⟩, ⟨b0, b1', b2, b3, b4, b5⟩, ⟨c0, c1, c2, c3, c4, c5⟩⟩ := hw
                 go_simp
                 try with_reducible rfl)
          try simp only [Act.put, List.getElem_toArray, List.getElem_cons_zero, List.getElem_cons_succ, List.setIfInBounds_toArray, List.set_cons_zero, List.set_cons_succ]
          first
            | refine wpAnyH_take (i := 10) rfl (by kernel_rfl) (by kernel_rfl) (by kernel_rfl) (fun _ _ _ h => h) (Or.inr ⟨by rfl, rfl⟩) hSw ?_
            | (refine wpAnyH_take (i := 10) (v := ?v10) rfl (by kernel_rfl) (by kernel_rfl) (by kernel_rfl) (fun _ _ _ h => h) (Or.inl ⟨by rfl, ?hy10⟩) hSw ?rest10
               case hy10 =>
                 intro w hw
                 obtain ⟨⟨a0, a1, a2, a3, a4, a5⟩, ⟨b0, b1', b2, b3, b4, b5⟩, ⟨c0, c1, c2, c3, c4, c5⟩⟩ := hw
                 go_simp
                 try with_reducible rfl)
          try simp only [Act.put, List.getElem_toArray, List.getElem_cons_zero, List.getElem_cons_succ, List.setIfInBounds_toArray, List.set_cons_zero, List.set_cons_succ]
          first
            | refine wpAnyH_take (i := 11) rfl (by kernel_rfl) (by kernel_rfl) (by kernel_rfl) (fun _ _ _ h => h) (Or.inr ⟨by rfl, rfl⟩) hSw ?_
            | (refine wpAnyH_take (i := 11) (v := ?v11) rfl (by kernel_rfl) (by kernel_rfl) (by kernel_rfl) (fun _ _ _ h => h) (Or.inl ⟨by rfl, ?hy11⟩) hSw ?rest11
               case hy11 =>
                 intro w hw
                 obtain ⟨⟨a0, a1, a2, a3, a4, a5⟩, ⟨b0, b1', b2, b3, b4, b5⟩, ⟨c0, c1, c2, c3, c4, c5⟩⟩ := hw
                 go_simp
                 try with_reducible rfl)
          try simp only [Act.put, List.getElem_toArray, List.getElem_cons_zero, List.getElem_cons_succ, List.setIfInBounds_toArray, List.set_cons_zero, List.set_cons_succ]
          first
            | refine wpAnyH_take (i := 12) rfl (by kernel_rfl) (by kernel_rfl) (by kernel_rfl) (fun _ _ _ h => h) (Or.inr ⟨by rfl, rfl⟩) hSw ?_
            | (refine wpAnyH_take (i := 12) (v := ?v12) rfl (by kernel_rfl) (by kernel_rfl) (by kernel_rfl) (fun _ _ _ h => h) (Or.inl ⟨by rfl, ?hy12⟩) hSw ?rest12
               case hy12 =>
                 intro w hw
                 obtain ⟨⟨a0, a1, a2, a3, a4, a5⟩, ⟨b0, b1', b2, b3, b4, b5⟩, ⟨c0, c1, c2, c3, c4, c5⟩⟩ := hw
                 go_simp
                 try with_reducible rfl)
          try simp only [Act.put, List.getElem_toArray, List.getElem_cons_zero, List.getElem_cons_succ, List.setIfInBounds_toArray, List.set_cons_zero, List.set_cons_succ]
          first
            | refine wpAnyH_take (i := 13) rfl (by kernel_rfl) (by kernel_rfl) (by kernel_rfl) (fun _ _ _ h => h) (Or.inr ⟨by rfl, rfl⟩) hSw ?_
            | (refine wpAnyH_take (i := 13) (v := ?v13) rfl (by kernel_rfl) (by kernel_rfl) (by kernel_rfl) (fun _ _ _ h => h) (Or.inl ⟨by rfl, ?hy13⟩) hSw ?rest13
               case hy13 =>
                 intro w hw
                 obtain ⟨⟨a0, a1, a2, a3, a4, a5⟩, ⟨b0, b1', b2, b3, b4, b5⟩, ⟨c0, c1, c2, c3, c4, c5⟩⟩ := hw
                 go_simp
                 try with_reducible rfl)
          try simp only [Act.put, List.getElem_toArray, List.getElem_cons_zero, List.getElem_cons_succ, List.setIfInBounds_toArray, List.set_cons_zero, List.set_cons_succ]
          first
            | refine wpAnyH_take (i := 14) rfl (by kernel_rfl) (by kernel_rfl) (by kernel_rfl) (fun _ _ _ h => h) (Or.inr ⟨by rfl, rfl⟩) hSw ?_
            | (refine wpAnyH_take (i := 14) (v := ?v14) rfl (by kernel_rfl) (by kernel_rfl) (by kernel_rfl) (fun _ _ _ h => h) (Or.inl ⟨by rfl, ?hy14⟩) hSw ?rest14
               case hy14 =>
                 intro w hw
                 obtain ⟨⟨a0, a1, a2, a3, a4, a5⟩, ⟨b0, b1', b2, b3, b4, b5⟩, ⟨c0, c1, c2, c3, c4, c5⟩⟩ := hw
                 go_simp
                 try with_reducible rfl)
          try simp only [Act.put, List.getElem_toArray, List.getElem_cons_zero, List.getElem_cons_succ, List.setIfInBounds_toArray, List.set_cons_zero, List.set_cons_succ]
          first
            | refine wpAnyH_take (i := 15) rfl (by kernel_rfl) (by kernel_rfl) (by kernel_rfl) (fun _ _ _ h => h) (Or.inr ⟨by rfl, rfl⟩) hSw ?_
            | (refine wpAnyH_take (i := 15) (v := ?v15) rfl (by kernel_rfl) (by kernel_rfl) (by kernel_rfl) (fun _ _ _ h => h) (Or.inl ⟨by rfl, ?hy15⟩) hSw ?rest15
               case hy15 =>
                 intro w hw
                 obtain ⟨⟨a0, a1, a2, a3, a4, a5⟩, ⟨b0, b1', b2, b3, b4, b5⟩, ⟨c0, c1, c2, c3, c4, c5⟩⟩ := hw
                 go_simp
                 try with_reducible rfl)
          try simp only [Act.put, List.getElem_toArray, List.getElem_cons_zero, List.getElem_cons_succ, List.setIfInBounds_toArray, List.set_cons_zero, List.set_cons_succ]
          first
            | refine wpAnyH_take (i := 16) rfl (by kernel_rfl) (by kernel_rfl) (by kernel_rfl) (fun _ _ _ h => h) (Or.inr ⟨by rfl, rfl⟩) hSw ?_
            | (refine wpAnyH_take (i := 16) (v := ?v16) rfl (by kernel_rfl) (by kernel_rfl) (by kernel_rfl) (fun _ _ _ h => h) (Or.inl ⟨by rfl, ?hy16⟩) hSw ?rest16
               case hy16 =>
                 intro w hw
                 obtain ⟨⟨a0, a1, a2, a3, a4, a5⟩, ⟨b0, b1', b2, b3, b4, b5⟩, ⟨c0, c1, c2, c3, c4, c5⟩⟩ := hw
                 go_simp
                 try with_reducible rfl)
          try simp only [Act.put, List.getElem_toArray, List.getElem_cons_zero, List.getElem_cons_succ, List.setIfInBounds_toArray, List.set_cons_zero, List.set_cons_succ]
          first
            | refine wpAnyH_take (i := 17) rfl (by kernel_rfl) (by kernel_rfl) (by kernel_rfl) (fun _ _ _ h => h) (Or.inr ⟨by rfl, rfl⟩) hSw ?_
            | (refine wpAnyH_take (i := 17) (v := ?v17) rfl (by kernel_rfl) (by kernel_rfl) (by kernel_rfl) (fun _ _ _ h => h) (Or.inl ⟨by rfl, ?hy17⟩) hSw ?rest17
               case hy17 =>
                 intro w hw
                 obtain ⟨⟨a0, a1, a2, a3, a4, a5⟩, ⟨b0, b1', b2, b3, b4, b5⟩, ⟨c0, c1, c2, c3, c4, c5⟩⟩ := hw
                 go_simp
                 try with_reducible rfl)
          try simp only [Act.put, List.getElem_toArray, List.getElem_cons_zero, List.getElem_cons_succ, List.setIfInBounds_toArray, List.set_cons_zero, List.set_cons_succ]
          first
            | refine wpAnyH_take (i := 18) rfl (by kernel_rfl) (by kernel_rfl) (by kernel_rfl) (fun _ _ _ h => h) (Or.inr ⟨by rfl, rfl⟩) hSw ?_
            | (refine wpAnyH_take (i := 18) (v := ?v18) rfl (by kernel_rfl) (by kernel_rfl) (by kernel_rfl) (fun _ _ _ h => h) (Or.inl ⟨by rfl, ?hy18⟩) hSw ?rest18
               case hy18 =>
                 intro w hw
                 obtain ⟨⟨a0, a1, a2, a3, a4, a5⟩, ⟨b0, b1', b2, b3, b4, b5⟩, ⟨c0, c1, c2, c3, c4, c5⟩⟩ := hw
                 go_simp
                 try with_reducible rfl)
          try simp only [Act.put, List.getElem_toArray, List.getElem_cons_zero, List.getElem_cons_succ, List.setIfInBounds_toArray, List.set_cons_zero, List.set_cons_succ]
          first
            | refine wpAnyH_take (i := 19) rfl (by kernel_rfl) (by kernel_rfl) (by kernel_rfl) (fun _ _ _ h => h) (Or.inr ⟨by rfl, rfl⟩) hSw ?_
            | (refine wpAnyH_take (i := 19) (v := ?v19) rfl (by kernel_rfl) (by kernel_rfl) (by kernel_rfl) (fun _ _ _ h => h) (Or.inl ⟨by rfl, ?hy19⟩) hSw ?rest19
               case hy19 =>
                 intro w hw
                 obtain ⟨⟨a0, a1, a2, a3, a4, a5⟩, ⟨b0, b1', b2, b3, b4, b5⟩, ⟨c0, c1, c2, c3, c4, c5⟩⟩ := hw
                 go_simp
                 try with_reducible rfl)
          try simp only [Act.put, List.getElem_toArray, List.getElem_cons_zero, List.getElem_cons_succ, List.setIfInBounds_toArray, List.set_cons_zero, List.set_cons_succ]
          first
            | refine wpAnyH_take (i := 20) rfl (by kernel_rfl) (by kernel_rfl) (by kernel_rfl) (fun _ _ _ h => h) (Or.inr ⟨by rfl, rfl⟩) hSw ?_
            | (refine wpAnyH_take (i := 20) (v := ?v20) rfl (by kernel_rfl) (by kernel_rfl) (by kernel_rfl) (fun _ _ _ h => h) (Or.inl ⟨by rfl, ?hy20⟩) hSw ?rest20
               case hy20 =>
                 intro w hw
                 obtain ⟨⟨a0, a1, a2, a3, a4, a5⟩, ⟨b0, b1', b2, b3, b4, b5⟩, ⟨c0, c1, c2, c3, c4, c5⟩⟩ := hw
                 go_simp
                 try with_reducible rfl)
          try simp only [Act.put, List.getElem_toArray, List.getElem_cons_zero, List.getElem_cons_succ, List.setIfInBounds_toArray, List.set_cons_zero, List.set_cons_succ]
          first
            | refine wpAnyH_take (i := 21) rfl (by kernel_rfl) (by kernel_rfl) (by kernel_rfl) (fun _ _ _ h => h) (Or.inr ⟨by rfl, rfl⟩) hSw ?_
            | (refine wpAnyH_take (i := 21) (v := ?v21) rfl (by kernel_rfl) (by kernel_rfl) (by kernel_rfl) (fun _ _ _ h => h) (Or.inl ⟨by rfl, ?hy21⟩) hSw ?rest21
               case hy21 =>
                 intro w hw
                 obtain ⟨⟨a0, a1, a2, a3, a4, a5⟩, ⟨b0, b1', b2, b3, b4, b5⟩, ⟨c0, c1, c2, c3, c4, c5⟩⟩ := hw
                 go_simp
                 try with_reducible rfl)
          try simp only [Act.put, List.getElem_toArray, List.getElem_cons_zero, List.getElem_cons_succ, List.setIfInBounds_toArray, List.set_cons_zero, List.set_cons_succ]
          first
            | refine wpAnyH_take (i := 22) rfl (by kernel_rfl) (by kernel_rfl) (by kernel_rfl) (fun _ _ _ h => h) (Or.inr ⟨by rfl, rfl⟩) hSw ?_
            | (refine wpAnyH_take (i := 22) (v := ?v22) rfl (by kernel_rfl) (by kernel_rfl) (by kernel_rfl) (fun _ _ _ h => h) (Or.inl ⟨by rfl, ?hy22⟩) hSw ?rest22
               case hy22 =>
                 intro w hw
                 obtain ⟨⟨a0, a1, a2, a3, a4, a5⟩, ⟨b0, b1', b2, b3, b4, b5⟩, ⟨c0, c1, c2, c3, c4, c5⟩⟩ := hw
                 go_simp
                 try with_reducible rfl)
          try simp only [Act.put, List.getElem_toArray, List.getElem_cons_zero, List.getElem_cons_succ, List.setIfInBounds_toArray, List.set_cons_zero, List.set_cons_succ]
          first
            | refine wpAnyH_take (i := 23) rfl (by kernel_rfl) (by kernel_rfl) (by kernel_rfl) (fun _ _ _ h => h) (Or.inr ⟨by rfl, rfl⟩) hSw ?_
            | (refine wpAnyH_take (i := 23) (v := ?v23) rfl (by kernel_rfl) (by kernel_rfl) (by kernel_rfl) (fun _ _ _ h => h) (Or.inl ⟨by rfl, ?hy23⟩) hSw ?rest23
               case hy23 =>
                 intro w hw
                 obtain ⟨⟨a0, a1, a2, a3, a4, a5⟩, ⟨b0, b1', b2, b3, b4, b5⟩, ⟨c0, c1, c2, c3, c4, c5⟩⟩ := hw
                 go_simp
                 try with_reducible rfl)
          try simp only [Act.put, List.getElem_toArray, List.getElem_cons_zero, List.getElem_cons_succ, List.setIfInBounds_toArray, List.set_cons_zero, List.set_cons_succ]
          first
            | refine wpAnyH_take (i := 24) rfl (by kernel_rfl) (by kernel_rfl) (by kernel_rfl) (fun _ _ _ h => h) (Or.inr ⟨by rfl, rfl⟩) hSw ?_
            | (refine wpAnyH_take (i := 24) (v := ?v24) rfl (by kernel_rfl) (by kernel_rfl) (by kernel_rfl) (fun _ _ _ h => h) (Or.inl ⟨by rfl, ?hy24⟩) hSw ?rest24
               case hy24 =>
                 intro w hw
                 obtain ⟨⟨a0, a1, a2, a3, a4, a5⟩, ⟨b0, b1', b2, b3, b4, b5⟩, ⟨c0, c1, c2, c3, c4, c5⟩⟩ := hw
                 go_simp
                 try with_reducible rfl)
          try simp only [Act.put, List.getElem_toArray, List.getElem_cons_zero, List.getElem_cons_succ, List.setIfInBounds_toArray, List.set_cons_zero, List.set_cons_succ]
          first
            | refine wpAnyH_take (i := 25) rfl (by kernel_rfl) (by kernel_rfl) (by kernel_rfl) (fun _ _ _ h => h) (Or.inr ⟨by rfl, rfl⟩) hSw ?_
            | (refine wpAnyH_take (i := 25) (v := ?v25) rfl (by kernel_rfl) (by kernel_rfl) (by kernel_rfl) (fun _ _ _ h => h) (Or.inl ⟨by rfl, ?hy25⟩) hSw ?rest25
               case hy25 =>
                 intro w hw
                 obtain ⟨⟨a0, a1, a2, a3, a4, a5⟩, ⟨b0, b1', b2, b3, b4, b5⟩, ⟨c0, c1, c2, c3, c4, c5⟩⟩ := hw
                 go_simp
                 try with_reducible rfl)
          try simp only [Act.put, List.getElem_toArray, List.getElem_cons_zero, List.getElem_cons_succ, List.setIfInBounds_toArray, List.set_cons_zero, List.set_cons_succ]
          first
            | refine wpAnyH_take (i := 26) rfl (by kernel_rfl) (by kernel_rfl) (by kernel_rfl) (fun _ _ _ h => h) (Or.inr ⟨by rfl, rfl⟩) hSw ?_
            | (refine wpAnyH_take (i := 26) (v := ?v26) rfl (by kernel_rfl) (by kernel_rfl) (by kernel_rfl) (fun _ _ _ h => h) (Or.inl ⟨by rfl, ?hy26⟩) hSw ?rest26
               case hy26 =>
                 intro w hw
                 obtain ⟨⟨a0, a1, a2, a3, a4, a5⟩, ⟨b0, b1', b2, b3, b4, b5⟩, ⟨c0, c1, c2, c3, c4, c5⟩⟩ := hw
                 go_simp
                 try with_reducible rfl)
          try simp only [Act.put, List.getElem_toArray, List.getElem_cons_zero, List.getElem_cons_succ, List.setIfInBounds_toArray, List.set_cons_zero, List.set_cons_succ]
          first
            | refine wpAnyH_take (i := 27) rfl (by kernel_rfl) (by kernel_rfl) (by kernel_rfl) (fun _ _ _ h => h) (Or.inr ⟨by rfl, rfl⟩) hSw ?_
            | (refine wpAnyH_take (i := 27) (v := ?v27) rfl (by kernel_rfl) (by kernel_rfl) (by kernel_rfl) (fun _ _ _ h => h) (Or.inl ⟨by rfl, ?hy27⟩) hSw ?rest27
               case hy27 =>
                 intro w hw
                 obtain ⟨⟨a0, a1, a2, a3, a4, a5⟩, ⟨b0, b1', b2, b3, b4, b5⟩, ⟨c0, c1, c2, c3, c4, c5⟩⟩ := hw
                 go_simp
                 try with_reducible rfl)
          try simp only [Act.put, List.getElem_toArray, List.getElem_cons_zero, List.getElem_cons_succ, List.setIfInBounds_toArray, List.set_cons_zero, List.set_cons_succ]
          first
            | refine wpAnyH_take (i := 28) rfl (by kernel_rfl) (by kernel_rfl) (by kernel_rfl) (fun _ _ _ h => h) (Or.inr ⟨by rfl, rfl⟩) hSw ?_
            | (refine wpAnyH_take (i := 28) (v := ?v28) rfl (by kernel_rfl) (by kernel_rfl) (by kernel_rfl) (fun _ _ _ h => h) (Or.inl ⟨by rfl, ?hy28⟩) hSw ?rest28
               case hy28 =>
                 intro w hw
                 obtain ⟨⟨a0, a1, a2, a3, a4, a5⟩, ⟨b0, b1', b2, b3, b4, b5⟩, ⟨c0, c1, c2, c3, c4, c5⟩⟩ := hw
                 go_simp
                 try with_reducible rfl)
          try simp only [Act.put, List.getElem_toArray, List.getElem_cons_zero, List.getElem_cons_succ, List.setIfInBounds_toArray, List.set_cons_zero, List.set_cons_succ]
          first
            | refine wpAnyH_take (i := 29) rfl (by kernel_rfl) (by kernel_rfl) (by kernel_rfl) (fun _ _ _ h => h) (Or.inr ⟨by rfl, rfl⟩) hSw ?_
            | (refine wpAnyH_take (i := 29) (v := ?v29) rfl (by kernel_rfl) (by kernel_rfl) (by kernel_rfl) (fun _ _ _ h => h) (Or.inl ⟨by rfl, ?hy29⟩) hSw ?rest29
               case hy29 =>
                 intro w hw
                 obtain ⟨⟨a0, a1, a2, a3, a4, a5⟩, ⟨b0, b1', b2, b3, b4, b5⟩, ⟨c0, c1, c2, c3, c4, c5⟩⟩ := hw
                 go_simp
                 try with_reducible rfl)
          try simp only [Act.put, List.getElem_toArray, List.getElem_cons_zero, List.getElem_cons_succ, List.setIfInBounds_toArray, List.set_cons_zero, List.set_cons_succ]
          first
            | refine wpAnyH_take (i := 30) rfl (by kernel_rfl) (by kernel_rfl) (by kernel_rfl) (fun _ _ _ h => h) (Or.inr ⟨by rfl, rfl⟩) hSw ?_
            | (refine wpAnyH_take (i := 30) (v := ?v30) rfl (by kernel_rfl) (by kernel_rfl) (by kernel_rfl) (fun _ _ _ h => h) (Or.inl ⟨by rfl, ?hy30⟩) hSw ?rest30
               case hy30 =>
                 intro w hw
                 obtain ⟨⟨a0, a1, a2, a3, a4, a5⟩, ⟨b0, b1', b2, b3, b4, b5⟩, ⟨c0, c1, c2, c3, c4, c5⟩⟩ := hw
                 go_simp
                 try with_reducible rfl)
          try simp only [Act.put, List.getElem_toArray, List.getElem_cons_zero, List.getElem_cons_succ, List.setIfInBounds_toArray, List.set_cons_zero, List.set_cons_succ]
          first
            | refine wpAnyH_take (i := 31) rfl (by kernel_rfl) (by kernel_rfl) (by kernel_rfl) (fun _ _ _ h => h) (Or.inr ⟨by rfl, rfl⟩) hSw ?_
            | (refine wpAnyH_take (i := 31) (v := ?v31) rfl (by kernel_rfl) (by kernel_rfl) (by kernel_rfl) (fun _ _ _ h => h) (Or.inl ⟨by rfl, ?hy31⟩) hSw ?rest31
               case hy31 =>
                 intro w hw
                 obtain ⟨⟨a0, a1, a2, a3, a4, a5⟩, ⟨b0, b1', b2, b3, b4, b5⟩, ⟨c0, c1, c2, c3, c4, c5⟩⟩ := hw
                 go_simp
                 try with_reducible rfl)
          try simp only [Act.put, List.getElem_toArray, List.getElem_cons_zero, List.getElem_cons_succ, List.setIfInBounds_toArray, List.set_cons_zero, List.set_cons_succ]
          first
            | refine wpAnyH_take (i := 32) rfl (by kernel_rfl) (by kernel_rfl) (by kernel_rfl) (fun _ _ _ h => h) (Or.inr ⟨by rfl, rfl⟩) hSw ?_
            | (refine wpAnyH_take (i := 32) (v := ?v32) rfl (by kernel_rfl) (by kernel_rfl) (by kernel_rfl) (fun _ _ _ h => h) (Or.inl ⟨by rfl, ?hy32⟩) hSw ?rest32
               case hy32 =>
                 intro w hw
                 obtain ⟨⟨a0, a1, a2, a3, a4, a5⟩, ⟨b0, b1', b2, b3, b4, b5⟩, ⟨c0, c1, c2, c3, c4, c5⟩⟩ := hw
                 go_simp
                 try with_reducible rfl)
          try simp only [Act.put, List.getElem_toArray, List.getElem_cons_zero, List.getElem_cons_succ, List.setIfInBounds_toArray, List.set_cons_zero, List.set_cons_succ]
          first
            | refine wpAnyH_take (i := 33) rfl (by kernel_rfl) (by kernel_rfl) (by kernel_rfl) (fun _ _ _ h => h) (Or.inr ⟨by rfl, rfl⟩) hSw ?_
            | (refine wpAnyH_take (i := 33) (v := ?v33) rfl (by kernel_rfl) (by kernel_rfl) (by kernel_rfl) (fun _ _ _ h => h) (Or.inl ⟨by rfl, ?hy33⟩) hSw ?rest33
               case hy33 =>
                 intro w hw
                 obtain ⟨⟨a0, a1, a2, a3, a4, a5⟩, ⟨b0, b1', b2, b3, b4, b5⟩, ⟨c0, c1, c2, c3, c4, c5⟩⟩ := hw
                 go_simp
                 try with_reducible rfl)
          try simp only [Act.put, List.getElem_toArray, List.getElem_cons_zero, List.getElem_cons_succ, List.setIfInBounds_toArray, List.set_cons_zero, List.set_cons_succ]
          first
            | refine wpAnyH_take (i := 34) rfl (by kernel_rfl) (by kernel_rfl) (by kernel_rfl) (fun _ _ _ h => h) (Or.inr ⟨by rfl, rfl⟩) hSw ?_
            | (refine wpAnyH_take (i := 34) (v := ?v34) rfl (by kernel_rfl) (by kernel_rfl) (by kernel_rfl) (fun _ _ _ h => h) (Or.inl ⟨by rfl, ?hy34⟩) hSw ?rest34
               case hy34 =>
                 intro w hw
                 obtain ⟨⟨a0, a1, a2, a3, a4, a5⟩, ⟨b0, b1', b2, b3, b4, b5⟩, ⟨c0, c1, c2, c3, c4, c5⟩⟩ := hw
                 go_simp
                 try with_reducible rfl)
          try simp only [Act.put, List.getElem_toArray, List.getElem_cons_zero, List.getElem_cons_succ, List.setIfInBounds_toArray, List.set_cons_zero, List.set_cons_succ]
          first
            | refine wpAnyH_take (i := 35) rfl (by kernel_rfl) (by kernel_rfl) (by kernel_rfl) (fun _ _ _ h => h) (Or.inr ⟨by rfl, rfl⟩) hSw ?_
            | (refine wpAnyH_take (i := 35) (v := ?v35) rfl (by kernel_rfl) (by kernel_rfl) (by kernel_rfl) (fun _ _ _ h => h) (Or.inl ⟨by rfl, ?hy35⟩) hSw ?rest35
               case hy35 =>
                 intro w hw
                 obtain ⟨⟨a0, a1, a2, a3, a4, a5⟩, ⟨b0, b1', b2, b3, b4, b5⟩, ⟨c0, c1, c2, c3, c4, c5⟩⟩ := hw
                 go_simp
                 try with_reducible rfl)
          try simp only [Act.put, List.getElem_toArray, List.getElem_cons_zero, List.getElem_cons_succ, List.setIfInBounds_toArray, List.set_cons_zero, List.set_cons_succ]
          first
            | refine wpAnyH_take (i := 36) rfl (by kernel_rfl) (by kernel_rfl) (by kernel_rfl) (fun _ _ _ h => h) (Or.inr ⟨by rfl, rfl⟩) hSw ?_
            | (refine wpAnyH_take (i := 36) (v := ?v36) rfl (by kernel_rfl) (by kernel_rfl) (by kernel_rfl) (fun _ _ _ h => h) (Or.inl ⟨by rfl, ?hy36⟩) hSw ?rest36
               case hy36 =>
                 intro w hw
                 obtain ⟨⟨a0, a1, a2, a3, a4, a5⟩, ⟨b0, b1', b2, b3, b4, b5⟩, ⟨c0, c1, c2, c3, c4, c5⟩⟩ := hw
                 go_simp
                 try with_reducible rfl)
          try simp only [Act.put, List.getElem_toArray, List.getElem_cons_zero, List.getElem_cons_succ, List.setIfInBounds_toArray, List.set_cons_zero, List.set_cons_succ]
          first
            | refine wpAnyH_take (i := 37) rfl (by kernel_rfl) (by kernel_rfl) (by kernel_rfl) (fun _ _ _ h => h) (Or.inr ⟨by rfl, rfl⟩) hSw ?_
            | (refine wpAnyH_take (i := 37) (v := ?v37) rfl (by kernel_rfl) (by kernel_rfl) (by kernel_rfl) (fun _ _ _ h => h) (Or.inl ⟨by rfl, ?hy37⟩) hSw ?rest37
               case hy37 =>
                 intro w hw
                 obtain ⟨⟨a0, a1, a2, a3, a4, a5⟩, ⟨b0, b1', b2, b3, b4, b5⟩, ⟨c0, c1, c2, c3, c4, c5⟩⟩ := hw
                 go_simp
                 try with_reducible rfl)
          try simp only [Act.put, List.getElem_toArray, List.getElem_cons_zero, List.getElem_cons_succ, List.setIfInBounds_toArray, List.set_cons_zero, List.set_cons_succ]
          first
            | refine wpAnyH_take (i := 38) rfl (by kernel_rfl) (by kernel_rfl) (by kernel_rfl) (fun _ _ _ h => h) (Or.inr ⟨by rfl, rfl⟩) hSw ?_
            | (refine wpAnyH_take (i := 38) (v := ?v38) rfl (by kernel_rfl) (by kernel_rfl) (by kernel_rfl) (fun _ _ _ h => h) (Or.inl ⟨by rfl, ?hy38⟩) hSw ?rest38
               case hy38 =>
                 intro w hw
                 obtain ⟨⟨a0, a1, a2, a3, a4, a5⟩, ⟨b0, b1', b2, b3, b4, b5⟩, ⟨c0, c1, c2, c3, c4, c5⟩⟩ := hw
                 go_simp
                 try with_reducible rfl)
          try simp only [Act.put, List.getElem_toArray, List.getElem_cons_zero, List.getElem_cons_succ, List.setIfInBounds_toArray, List.set_cons_zero, List.set_cons_succ]
          first
            | refine wpAnyH_take (i := 39) rfl (by kernel_rfl) (by kernel_rfl) (by kernel_rfl) (fun _ _ _ h => h) (Or.inr ⟨by rfl, rfl⟩) hSw ?_
            | (refine wpAnyH_take (i := 39) (v := ?v39) rfl (by kernel_rfl) (by kernel_rfl) (by kernel_rfl) (fun _ _ _ h => h) (Or.inl ⟨by rfl, ?hy39⟩) hSw ?rest39
               case hy39 =>
                 intro w hw
                 obtain ⟨⟨a0, a1, a2, a3, a4, a5⟩, ⟨b0, b1', b2, b3, b4, b5⟩, ⟨c0, c1, c2, c3, c4, c5⟩⟩ := hw
                 go_simp
                 try with_reducible rfl)
          try simp only [Act.put, List.getElem_toArray, List.getElem_cons_zero, List.getElem_cons_succ, List.setIfInBounds_toArray, List.set_cons_zero, List.set_cons_succ]
          first
            | refine wpAnyH_take (i := 40) rfl (by kernel_rfl) (by kernel_rfl) (by kernel_rfl) (fun _ _ _ h => h) (Or.inr ⟨by rfl, rfl⟩) hSw ?_
            | (refine wpAnyH_take (i := 40) (v := ?v40) rfl (by kernel_rfl) (by kernel_rfl) (by kernel_rfl) (fun _ _ _ h => h) (Or.inl ⟨by rfl, ?hy40⟩) hSw ?rest40
               case hy40 =>
                 intro w hw
                 obtain ⟨⟨a0, a1, a2, a3, a4, a5⟩, ⟨b0, b1', b2, b3, b4, b5⟩, ⟨c0, c1, c2, c3, c4, c5⟩⟩ := hw
                 go_simp
                 try with_reducible rfl)
          try simp only [Act.put, List.getElem_toArray, List.getElem_cons_zero, List.getElem_cons_succ, List.setIfInBounds_toArray, List.set_cons_zero, List.set_cons_succ]
          first
            | refine wpAnyH_take (i := 41) rfl (by kernel_rfl) (by kernel_rfl) (by kernel_rfl) (fun _ _ _ h => h) (Or.inr ⟨by rfl, rfl⟩) hSw ?_
            | (refine wpAnyH_take (i := 41) (v := ?v41) rfl (by kernel_rfl) (by kernel_rfl) (by kernel_rfl) (fun _ _ _ h => h) (Or.inl ⟨by rfl, ?hy41⟩) hSw ?rest41
               case hy41 =>
                 intro w hw
                 obtain ⟨⟨a0, a1, a2, a3, a4, a5⟩, ⟨b0, b1', b2, b3, b4, b5⟩, ⟨c0, c1, c2, c3, c4, c5⟩⟩ := hw
                 go_simp
                 try with_reducible rfl)
          try simp only [Act.put, List.getElem_toArray, List.getElem_cons_zero, List.getElem_cons_succ, List.setIfInBounds_toArray, List.set_cons_zero, List.set_cons_succ]
          first
            | refine wpAnyH_take (i := 42) rfl (by kernel_rfl) (by kernel_rfl) (by kernel_rfl) (fun _ _ _ h => h) (Or.inr ⟨by rfl, rfl⟩) hSw ?_
            | (refine wpAnyH_take (i := 42) (v := ?v42) rfl (by kernel_rfl) (by kernel_rfl) (by kernel_rfl) (fun _ _ _ h => h) (Or.inl ⟨by rfl, ?hy42⟩) hSw ?rest42
               case hy42 =>
                 intro w hw
                 obtain ⟨⟨a0, a1, a2, a3, a4, a5⟩, ⟨b0, b1', b2, b3, b4, b5⟩, ⟨c0, c1, c2, c3, c4, c5⟩⟩ := hw
                 go_simp
                 try with_reducible rfl)
          try simp only [Act.put, List.getElem_toArray, List.getElem_cons_zero, List.getElem_cons_succ, List.setIfInBounds_toArray, List.set_cons_zero, List.set_cons_succ]
          first
            | refine wpAnyH_take (i := 43) rfl (by kernel_rfl) (by kernel_rfl) (by kernel_rfl) (fun _ _ _ h => h) (Or.inr ⟨by rfl, rfl⟩) hSw ?_
            | (refine wpAnyH_take (i := 43) (v := ?v43) rfl (by kernel_rfl) (by kernel_rfl) (by kernel_rfl) (fun _ _ _ h => h) (Or.inl ⟨by rfl, ?hy43⟩) hSw ?rest43
               case hy43 =>
                 intro w hw
                 obtain ⟨⟨a0, a1, a2, a3, a4, a5⟩, ⟨b0, b1', b2, b3, b4, b5⟩, ⟨c0, c1, c2, c3, c4, c5⟩⟩ := hw
                 go_simp
                 try with_reducible rfl)
          try simp only [Act.put, List.getElem_toArray, List.getElem_cons_zero, List.getElem_cons_succ, List.setIfInBounds_toArray, List.set_cons_zero, List.set_cons_succ]
          first
            | refine wpAnyH_take (i := 44) rfl (by kernel_rfl) (by kernel_rfl) (by kernel_rfl) (fun _ _ _ h => h) (Or.inr ⟨by rfl, rfl⟩) hSw ?_
            | (refine wpAnyH_take (i := 44) (v := ?v44) rfl (by kernel_rfl) (by kernel_rfl) (by kernel_rfl) (fun _ _ _ h => h) (Or.inl ⟨by rfl, ?hy44⟩) hSw ?rest44
               case hy44 =>
                 intro w hw
                 obtain ⟨⟨a0, a1, a2, a3, a4, a5⟩, ⟨b0, b1', b2, b3, b4, b5⟩, ⟨c0, c1, c2, c3, c4, c5⟩⟩ := hw
                 go_simp
                 try with_reducible rfl)
          try simp only [Act.put, List.getElem_toArray, List.getElem_cons_zero, List.getElem_cons_succ, List.setIfInBounds_toArray, List.set_cons_zero, List.set_cons_succ]
          first
            | refine wpAnyH_take (i := 45) rfl (by kernel_rfl) (by kernel_rfl) (by kernel_rfl) (fun _ _ _ h => h) (Or.inr ⟨by rfl, rfl⟩) hSw ?_
            | (refine wpAnyH_take (i := 45) (v := ?v45) rfl (by kernel_rfl) (by kernel_rfl) (by kernel_rfl) (fun _ _ _ h => h) (Or.inl ⟨by rfl, ?hy45⟩) hSw ?rest45
               case hy45 =>
                 intro w hw
                 obtain ⟨⟨a0, a1, a2, a3, a4, a5⟩, ⟨b0, b1', b2, b3, b4, b5⟩, ⟨c0, c1, c2, c3, c4, c5⟩⟩ := hw
                 go_simp
                 try with_reducible rfl)
          try simp only [Act.put, List.getElem_toArray, List.getElem_cons_zero, List.getElem_cons_succ, List.setIfInBounds_toArray, List.set_cons_zero, List.set_cons_succ]
          first
            | refine wpAnyH_take (i := 46) rfl (by kernel_rfl) (by kernel_rfl) (by kernel_rfl) (fun _ _ _ h => h) (Or.inr ⟨by rfl, rfl⟩) hSw ?_
            | (refine wpAnyH_take (i := 46) (v := ?v46) rfl (by kernel_rfl) (by kernel_rfl) (by kernel_rfl) (fun _ _ _ h => h) (Or.inl ⟨by rfl, ?hy46⟩) hSw ?rest46
               case hy46 =>
                 intro w hw
                 obtain ⟨⟨a0, a1, a2, a3, a4, a5⟩, ⟨b0, b1', b2, b3, b4, b5⟩, ⟨c0, c1, c2, c3, c4, c5⟩⟩ := hw
                 go_simp
                 try with_reducible rfl)
          try simp only [Act.put, List.getElem_toArray, List.getElem_cons_zero, List.getElem_cons_succ, List.setIfInBounds_toArray, List.set_cons_zero, List.set_cons_succ]
          first
            | refine wpAnyH_take (i := 47) rfl (by kernel_rfl) (by kernel_rfl) (by kernel_rfl) (fun _ _ _ h => h) (Or.inr ⟨by rfl, rfl⟩) hSw ?_
            | (refine wpAnyH_take (i := 47) (v := ?v47) rfl (by kernel_rfl) (by kernel_rfl) (by kernel_rfl) (fun _ _ _ h => h) (Or.inl ⟨by rfl, ?hy47⟩) hSw ?rest47
               case hy47 =>
                 intro w hw
                 obtain ⟨⟨a0, a1, a2, a3, a4, a5⟩, ⟨b0, b1', b2, b3, b4, b5⟩, ⟨c0, c1, c2, c3, c4, c5⟩⟩ := hw
                 go_simp
                 try with_reducible rfl)
          try simp only [Act.put, List.getElem_toArray, List.getElem_cons_zero, List.getElem_cons_succ, List.setIfInBounds_toArray, List.set_cons_zero, List.set_cons_succ]
          first
            | refine wpAnyH_take (i := 48) rfl (by kernel_rfl) (by kernel_rfl) (by kernel_rfl) (fun _ _ _ h => h) (Or.inr ⟨by rfl, rfl⟩) hSw ?_
            | (refine wpAnyH_take (i := 48) (v := ?v48) rfl (by kernel_rfl) (by kernel_rfl) (by kernel_rfl) (fun _ _ _ h => h) (Or.inl ⟨by rfl, ?hy48⟩) hSw ?rest48
               case hy48 =>
                 intro w hw
                 obtain ⟨⟨a0, a1, a2, a3, a4, a5⟩, ⟨b0, b1', b2, b3, b4, b5⟩, ⟨c0, c1, c2, c3, c4, c5⟩⟩ := hw
                 go_simp
                 try with_reducible rfl)
          try simp only [Act.put, List.getElem_toArray, List.getElem_cons_zero, List.getElem_cons_succ, List.setIfInBounds_toArray, List.set_cons_zero, List.set_cons_succ]
          first
            | refine wpAnyH_take (i := 49) rfl (by kernel_rfl) (by kernel_rfl) (by kernel_rfl) (fun _ _ _ h => h) (Or.inr ⟨by rfl, rfl⟩) hSw ?_
            | (refine wpAnyH_take (i := 49) (v := ?v49) rfl (by kernel_rfl) (by kernel_rfl) (by kernel_rfl) (fun _ _ _ h => h) (Or.inl ⟨by rfl, ?hy49⟩) hSw ?rest49
               case hy49 =>
                 intro w hw
                 obtain ⟨⟨a0, a1, a2, a3, a4, a5⟩, ⟨b0, b1', b2, b3, b4, b5⟩, ⟨c0, c1, c2, c3, c4, c5⟩⟩ := hw
                 go_simp
                 try with_reducible rfl)
          try simp only [Act.put, List.getElem_toArray, List.getElem_cons_zero, List.getElem_cons_succ, List.setIfInBounds_toArray, List.set_cons_zero, List.set_cons_succ]
          first
            | refine wpAnyH_take (i := 50) rfl (by kernel_rfl) (by kernel_rfl) (by kernel_rfl) (fun _ _ _ h => h) (Or.inr ⟨by rfl, rfl⟩) hSw ?_
            | (refine wpAnyH_take (i := 50) (v := ?v50) rfl (by kernel_rfl) (by kernel_rfl) (by kernel_rfl) (fun _ _ _ h => h) (Or.inl ⟨by rfl, ?hy50⟩) hSw ?rest50
               case hy50 =>
                 intro w hw
                 obtain ⟨⟨a0, a1, a2, a3, a4, a5⟩, ⟨b0, b1', b2, b3, b4, b5⟩, ⟨c0, c1, c2, c3, c4, c5⟩⟩ := hw
                 go_simp
                 try with_reducible rfl)
          try simp only [Act.put, List.getElem_toArray, List.getElem_cons_zero, List.getElem_cons_succ, List.setIfInBounds_toArray, List.set_cons_zero, List.set_cons_succ]
          first
            | refine wpAnyH_take (i := 51) rfl (by kernel_rfl) (by kernel_rfl) (by kernel_rfl) (fun _ _ _ h => h) (Or.inr ⟨by rfl, rfl⟩) hSw ?_
            | (refine wpAnyH_take (i := 51) (v := ?v51) rfl (by kernel_rfl) (by kernel_rfl) (by kernel_rfl) (fun _ _ _ h => h) (Or.inl ⟨by rfl, ?hy51⟩) hSw ?rest51
               case hy51 =>
                 intro w hw
                 obtain ⟨⟨a0, a1, a2, a3, a4, a5⟩, ⟨b0, b1', b2, b3, b4, b5⟩, ⟨c0, c1, c2, c3, c4, c5⟩⟩ := hw
                 go_simp
                 try with_reducible rfl)
          try simp only [Act.put, List.getElem_toArray, List.getElem_cons_zero, List.getElem_cons_succ, List.setIfInBounds_toArray, List.set_cons_zero, List.set_cons_succ]
          first
            | refine wpAnyH_take (i := 52) rfl (by kernel_rfl) (by kernel_rfl) (by kernel_rfl) (fun _ _ _ h => h) (Or.inr ⟨by rfl, rfl⟩) hSw ?_
            | (refine wpAnyH_take (i := 52) (v := ?v52) rfl (by kernel_rfl) (by kernel_rfl) (by kernel_rfl) (fun _ _ _ h => h) (Or.inl ⟨by rfl, ?hy52⟩) hSw ?rest52
               case hy52 =>
                 intro w hw
                 obtain ⟨⟨a0, a1, a2, a3, a4, a5⟩, ⟨b0, b1', b2, b3, b4, b5⟩, ⟨c0, c1, c2, c3, c4, c5⟩⟩ := hw
                 go_simp
                 try with_reducible rfl)
          try simp only [Act.put, List.getElem_toArray, List.getElem_cons_zero, List.getElem_cons_succ, List.setIfInBounds_toArray, List.set_cons_zero, List.set_cons_succ]
          first
            | refine wpAnyH_take (i := 53) rfl (by kernel_rfl) (by kernel_rfl) (by kernel_rfl) (fun _ _ _ h => h) (Or.inr ⟨by rfl, rfl⟩) hSw ?_
            | (refine wpAnyH_take (i := 53) (v := ?v53) rfl (by kernel_rfl) (by kernel_rfl) (by kernel_rfl) (fun _ _ _ h => h) (Or.inl ⟨by rfl, ?hy53⟩) hSw ?rest53
               case hy53 =>
                 intro w hw
                 obtain ⟨⟨a0, a1, a2, a3, a4, a5⟩, ⟨b0, b1', b2, b3, b4, b5⟩, ⟨c0, c1, c2, c3, c4, c5⟩⟩ := hw
                 go_simp
                 try with_reducible rfl)
          try simp only [Act.put, List.getElem_toArray, List.getElem_cons_zero, List.getElem_cons_succ, List.setIfInBounds_toArray, List.set_cons_zero, List.set_cons_succ]
          first
            | refine wpAnyH_take (i := 54) rfl (by kernel_rfl) (by kernel_rfl) (by kernel_rfl) (fun _ _ _ h => h) (Or.inr ⟨by rfl, rfl⟩) hSw ?_
            | (refine wpAnyH_take (i := 54) (v := ?v54) rfl (by kernel_rfl) (by kernel_rfl) (by kernel_rfl) (fun _ _ _ h => h) (Or.inl ⟨by rfl, ?hy54⟩) hSw ?rest54
               case hy54 =>
                 intro w hw
                 obtain ⟨⟨a0, a1, a2, a3, a4, a5⟩, ⟨b0, b1', b2, b3, b4, b5⟩, ⟨c0, c1, c2, c3, c4, c5⟩⟩ := hw
                 go_simp
                 try with_reducible rfl)
          try simp only [Act.put, List.getElem_toArray, List.getElem_cons_zero, List.getElem_cons_succ, List.setIfInBounds_toArray, List.set_cons_zero, List.set_cons_succ]
          first
            | refine wpAnyH_take (i := 55) rfl (by kernel_rfl) (by kernel_rfl) (by kernel_rfl) (fun _ _ _ h => h) (Or.inr ⟨by rfl, rfl⟩) hSw ?_
            | (refine wpAnyH_take (i := 55) (v := ?v55) rfl (by kernel_rfl) (by kernel_rfl) (by kernel_rfl) (fun _ _ _ h => h) (Or.inl ⟨by rfl, ?hy55⟩) hSw ?rest55
               case hy55 =>
                 intro w hw
                 obtain ⟨⟨a0, a1, a2, a3, a4, a5⟩, ⟨b0, b1', b2, b3, b4, b5⟩, ⟨c0, c1, c2, c3, c4, c5⟩⟩ := hw
                 go_simp
                 try with_reducible rfl)
          try simp only [Act.put, List.getElem_toArray, List.getElem_cons_zero, List.getElem_cons_succ, List.setIfInBounds_toArray, List.set_cons_zero, List.set_cons_succ]
          first
            | refine wpAnyH_take (i := 56) rfl (by kernel_rfl) (by kernel_rfl) (by kernel_rfl) (fun _ _ _ h => h) (Or.inr ⟨by rfl, rfl⟩) hSw ?_
            | (refine wpAnyH_take (i := 56) (v := ?v56) rfl (by kernel_rfl) (by kernel_rfl) (by kernel_rfl) (fun _ _ _ h => h) (Or.inl ⟨by rfl, ?hy56⟩) hSw ?rest56
               case hy56 =>
                 intro w hw
                 obtain ⟨⟨a0, a1, a2, a3, a4, a5⟩, ⟨b0, b1', b2, b3, b4, b5⟩, ⟨c0, c1, c2, c3, c4, c5⟩⟩ := hw
                 go_simp
                 try with_reducible rfl)
          try simp only [Act.put, List.getElem_toArray, List.getElem_cons_zero, List.getElem_cons_succ, List.setIfInBounds_toArray, List.set_cons_zero, List.set_cons_succ]
          first
            | refine wpAnyH_take (i := 57) rfl (by kernel_rfl) (by kernel_rfl) (by kernel_rfl) (fun _ _ _ h => h) (Or.inr ⟨by rfl, rfl⟩) hSw ?_
            | (refine wpAnyH_take (i := 57) (v := ?v57) rfl (by kernel_rfl) (by kernel_rfl) (by kernel_rfl) (fun _ _ _ h => h) (Or.inl ⟨by rfl, ?hy57⟩) hSw ?rest57
               case hy57 =>
                 intro w hw
                 obtain ⟨⟨a0, a1, a2, a3, a4, a5⟩, ⟨b0, b1', b2, b3, b4, b5⟩, ⟨c0, c1, c2, c3, c4, c5⟩⟩ := hw
                 go_simp
                 try with_reducible rfl)
          try simp only [Act.put, List.getElem_toArray, List.getElem_cons_zero, List.getElem_cons_succ, List.setIfInBounds_toArray, List.set_cons_zero, List.set_cons_succ]
          first
            | refine wpAnyH_take (i := 58) rfl (by kernel_rfl) (by kernel_rfl) (by kernel_rfl) (fun _ _ _ h => h) (Or.inr ⟨by rfl, rfl⟩) hSw ?_
            | (refine wpAnyH_take (i := 58) (v := ?v58) rfl (by kernel_rfl) (by kernel_rfl) (by kernel_rfl) (fun _ _ _ h => h) (Or.inl ⟨by rfl, ?hy58⟩) hSw ?rest58
               case hy58 =>
                 intro w hw
                 obtain ⟨⟨a0, a1, a2, a3, a4, a5⟩, ⟨b0, b1', b2, b3, b4, b5⟩, ⟨c0, c1, c2, c3, c4, c5⟩⟩ := hw
                 go_simp
                 try with_reducible rfl)
          try simp only [Act.put, List.getElem_toArray, List.getElem_cons_zero, List.getElem_cons_succ, List.setIfInBounds_toArray, List.set_cons_zero, List.set_cons_succ]
          first
            | refine wpAnyH_take (i := 59) rfl (by kernel_rfl) (by kernel_rfl) (by kernel_rfl) (fun _ _ _ h => h) (Or.inr ⟨by rfl, rfl⟩) hSw ?_
            | (refine wpAnyH_take (i := 59) (v := ?v59) rfl (by kernel_rfl) (by kernel_rfl) (by kernel_rfl) (fun _ _ _ h => h) (Or.inl ⟨by rfl, ?hy59⟩) hSw ?rest59
               case hy59 =>
                 intro w hw
                 obtain ⟨⟨a0, a1, a2, a3, a4, a5⟩, ⟨b0, b1', b2, b3, b4, b5⟩, ⟨c0, c1, c2, c3, c4, c5⟩⟩ := hw
                 go_simp
                 try with_reducible rfl)
          try simp only [Act.put, List.getElem_toArray, List.getElem_cons_zero, List.getElem_cons_succ, List.setIfInBounds_toArray, List.set_cons_zero, List.set_cons_succ]
          refine wpAnyH_ready (rs := [60]) (by kernel_rfl) (by simp) ?_
          refine AllReadyH.cons rfl (fun K hK => ?_) AllReadyH.nil
          rw [if_pos (by kernel_rfl)]
          go_simp
          (go_at_call 14; ((with_reducible refine (HRd.out _).mono ?_); rintro e w9 ⟨rfl, h9⟩; have HU9 := Lib.hid (HUc.out.trans ((Up.drew _).trans h9))))
          try go_wp2
          refine hK.out _ _ ⟨hSw.1.up h9, hSw.2.1.up h9, hSw.2.2.up h9⟩ (fun hSw2 => ?_)
          clear hK K h9 hSw
          try simp only [Act.put, List.getElem_toArray, List.getElem_cons_zero, List.getElem_cons_succ, List.setIfInBounds_toArray, List.set_cons_zero, List.set_cons_succ]
          refine wpAnyH_take (i := 61) (v := ?v61) rfl (by kernel_rfl) (by kernel_rfl) (by kernel_rfl) (fun _ _ _ h => h) (Or.inl ⟨by rfl, ?hy61⟩) hSw2 ?rest61
          case hy61 =>
            intro w hw
            go_simp
            try with_reducible rfl
          try simp only [Act.put, List.getElem_toArray, List.getElem_cons_zero, List.getElem_cons_succ, List.setIfInBounds_toArray, List.set_cons_zero, List.set_cons_succ]
          refine wpAnyH_take (i := 62) (v := ?v62) rfl (by kernel_rfl) (by kernel_rfl) (by kernel_rfl) (fun _ _ _ h => h) (Or.inl ⟨by rfl, ?hy62⟩) hSw2 ?rest62
          case hy62 =>
            intro w hw
            go_simp
            try with_reducible rfl
          try simp only [Act.put, List.getElem_toArray, List.getElem_cons_zero, List.getElem_cons_succ, List.setIfInBounds_toArray, List.set_cons_zero, List.set_cons_succ]
          refine wpAnyH_done (by kernel_rfl) ?_ _
          all_goals
            go_wp2
            go_ret
            exact ⟨rfl, HU9.out⟩
end Go.Proofs.YtopdbilkpkgccaaDoor
