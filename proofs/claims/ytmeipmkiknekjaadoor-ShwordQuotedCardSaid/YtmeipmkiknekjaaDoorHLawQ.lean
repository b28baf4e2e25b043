/- ShwordQuoted walked. -/
import Derived.Test.YtmeipmkiknekjaaDoorHQuo
import Derived.Test.YtmeipmkiknekjaaDoorHLawA
namespace Go.Proofs.YtmeipmkiknekjaaDoor
open Go.RowKit
set_option linter.unusedVariables false
theorem no39 {s : ByteArray} (h : ∀ j, j < s.size → bt s j ≠ 39) : 39 ∉ bl s := fun hm => by
  obtain ⟨i, hi, he⟩ := List.getElem_of_mem hm
  rw [bl_len] at hi
  have := bl_at hi
  rw [List.getElem?_eq_getElem (by rw [bl_len]; exact hi), he] at this
  exact h i hi (Option.some.inj this).symm
theorem bl_one (c : UInt8) : bl ⟨#[c]⟩ = [c.toNat] := rfl
theorem bl_quote {Y1 Y2 Y3 s : ByteArray} {n1 n2 : Nat} (h1 : bl Y1 = List.replicate n1 32) (h2 : bl Y2 = bl Y1 ++ (39 :: (bl s ++ [39]))) (h3 : bl Y3 = bl Y2 ++ List.replicate n2 9) : bl (Y3 ++ ⟨#[10]⟩) = List.replicate n1 32 ++ (39 :: (bl s ++ 39 :: (List.replicate n2 9 ++ [10]))) := by
  rw [bl_append, h3, h2, h1, bl_one]
  simp

set_option maxRecDepth 100000 in
set_option maxHeartbeats 4000000 in
theorem quoted_far (W : World) (hT : TabH W) (s : ByteArray) (x y : Int) (h : (4096 : Int) < s.size) : Calls Tryd.prog 6 #[.string s, .int .u8 x, .int .u8 y] W fun e w' => e = .returned (.bool true) ∧ Up W w' := by
  have HK := Lib.hid (wakes_any W hT)
  clear hT
  go_enter Tryd.func6, Tryd.ntmps6
  go_wp2_with (first
    | (go_at_call 8; ((with_reducible refine (HK.out).mono ?_); rintro e w3 ⟨rfl, hu⟩; have HU := Lib.hid hu; clear hu)))
  go_ret
  exact ⟨rfl, HU.out⟩
set_option maxRecDepth 100000 in
set_option maxHeartbeats 16000000 in
theorem quoted_near (W : World) (hT : TabH W) (s : ByteArray) (x y n1 n2 : Nat) (h : (s.size : Int) ≤ 4096) (hn1 : (wrap64 (x : Int)).tmod 5 = (n1 : Nat)) (hn2 : (wrap64 (y : Int)).tmod 5 = (n2 : Nat)) (hl1 : n1 < 5) (hl2 : n2 < 5) : Calls Tryd.prog 6 #[.string s, .int .u8 (x : Nat), .int .u8 (y : Nat)] W fun e w' => e = .returned (.bool true) ∧ Up W w' := by
  have HK := Lib.hid (fun w (h : TabH w) => wakes_any w h)
  have HT := Lib.hid hT
  have HU := Lib.hid (Up.refl W)
  have HR := Lib.hid (fun w (h : TabH w) (l : ByteArray) (hs : (l.size : Int) ≤ 500000) => read_any w h l 0 0 hs)
  have f0 : ¬ ((4096 : Int) < s.size) := by omega
  have f1 : decide ((4096 : Int) < s.size) = false := decide_eq_false f0
  have HS := Lib.hid h
  have HN1 := Lib.hid hl1
  have HN2 := Lib.hid hl2
  clear hT h hl1 hl2
  go_enter Tryd.func6, Tryd.ntmps6
  go_wp2
  clear f0 f1
  go_loopg [7] s.size (fun g iv wr => W = wr ∧ ∃ i : Nat, i ≤ s.size ∧ g = s.size - i ∧ iv = .int .i64 (i : Nat) ∧ Hid (∀ j, j < i → bt s j ≠ 39))
  case atStart => exact ⟨rfl, 0, Nat.zero_le _, rfl, rfl, Lib.hid (fun j h => absurd h (Nat.not_lt_zero _))⟩
  case round =>
    obtain ⟨rfl, i, hi, hg, rfl, HQ⟩ := hrel
    have HG := Lib.hid hg
    clear hg
    by_cases hlt : i < s.size
    · obtain ⟨c, hc⟩ : ∃ c, bt s i = c := ⟨_, rfl⟩
      have hx : s[i].toNat = c := by rw [bt_eq hlt]; exact hc
      have p0 : (0 : Int) ≤ (i : Int) := by omega
      have p1 : (i : Int) < s.size := by omega
      have e1 : IntKind.i64.wrap ((i : Int) + 1) = (i : Int) + 1 := IntWalk.i64_in _ (by have := HS.out; omega)
      have HLT := Lib.hid hlt
      have HC := Lib.hid hc
      clear hc
      by_cases h39 : c = 39
      · subst h39
        go_wp2_with (first | (go_at_call 8; ((with_reducible refine (HK.out _ (HT.out.up HU.out)).mono ?_); rintro e w3 ⟨rfl, hu⟩; have HU := Lib.hid (HU.out.trans hu); clear hu)))
        go_ret
        exact ⟨rfl, HU.out⟩
      · by_cases h10 : c = 10
        · subst h10
          go_wp2_with (first | (go_at_call 8; ((with_reducible refine (HK.out _ (HT.out.up HU.out)).mono ?_); rintro e w3 ⟨rfl, hu⟩; have HU := Lib.hid (HU.out.trans hu); clear hu)))
          go_ret
          exact ⟨rfl, HU.out⟩
        · have n1 : ((c : Int) == 39) = false := beq_eq_false_iff_ne.2 (by omega)
          have n2 : ((c : Int) == 10) = false := beq_eq_false_iff_ne.2 (by omega)
          have HH := Lib.hid (And.intro h39 h10)
          clear h39 h10
          go_wp2
          go_roundg (s.size - (i + 1))
          case measure => rw [HG.out]; have := HLT.out; omega
          case rel => exact ⟨rfl, i + 1, HLT.out, rfl, by go_num, Lib.hid (fun j hj => by
            by_cases h : j < i
            · exact HQ.out j h
            · obtain rfl : j = i := by omega
              rw [HC.out]; exact HH.out.1)⟩
    · obtain rfl : i = s.size := by omega
      have HNO := Lib.hid (no39 HQ.out)
      clear hlt HQ hi HG
      go_wp2
      go_loopg [8, 9] n1 (fun g v8 v9 wr => W = wr ∧ ∃ (i : Nat) (Y : ByteArray), i ≤ n1 ∧ g = n1 - i ∧ v9 = .int .i64 (i : Nat) ∧ v8 = .string Y ∧ Hid (bl Y = List.replicate i 32))
      case atStart => exact ⟨rfl, 0, ⟨#[]⟩, Nat.zero_le _, rfl, rfl, rfl, Lib.hid rfl⟩
      case round =>
        obtain ⟨rfl, i, Y, hi, hg, rfl, rfl, HY⟩ := hrel
        have HG := Lib.hid hg
        have hz := congrArg List.length HY.out
        rw [bl_len, List.length_replicate] at hz
        have HZ := Lib.hid hz
        clear hg hz
        by_cases hlt : i < n1
        · have q0 : (i : Int) < (n1 : Int) := by omega
          have q1 : ¬ 9223372036854775807 < Y.size + 1 := by have := HZ.out; have := HN1.out; omega
          have e1 : IntKind.i64.wrap ((i : Int) + 1) = (i : Int) + 1 := IntWalk.i64_in _ (by have := HN1.out; omega)
          have HLT := Lib.hid hlt
          clear hlt
          go_wp2
          go_roundg (n1 - (i + 1))
          case measure => rw [HG.out]; have := HLT.out; omega
          case rel => exact ⟨rfl, i + 1, _, HLT.out, rfl, by go_num, rfl, Lib.hid (by rw [bl_append, HY.out, List.replicate_succ']; rfl)⟩
        · obtain rfl : i = n1 := by omega
          have q0 : ¬ ((i : Int) < (i : Int)) := by omega
          have q1 : ¬ 9223372036854775807 < Y.size + 1 := by have := HZ.out; have := HN1.out; omega
          have q2 : ¬ 9223372036854775807 < Y.size + 1 + s.size := by have := HZ.out; have := HN1.out; have := HS.out; omega
          have q3 : ¬ 9223372036854775807 < Y.size + 1 + s.size + 1 := by have := HZ.out; have := HN1.out; have := HS.out; omega
          clear hlt HG hi
          go_wp2
          have hY2 : bl (Y ++ ⟨#[39]⟩ ++ s ++ ⟨#[39]⟩) = bl Y ++ (39 :: (bl s ++ [39])) := by simp only [bl_append, bl_one]; simp
          clear q0 q1 q2 q3
          generalize hYY : Y ++ ⟨#[39]⟩ ++ s ++ ⟨#[39]⟩ = Y2 at hY2
          have HY2 := Lib.hid hY2
          have hz2 := congrArg List.length hY2
          simp only [bl_len, List.length_append, List.length_cons, List.length_nil] at hz2
          have HZ2 := Lib.hid (show Y2.size = i + s.size + 2 from by have := HZ.out; omega)
          clear hY2 hz2 hYY
          rw [show (Y.size : Int) + 1 + (s.size : Int) + 1 = (Y2.size : Nat) from by have := HZ.out; have := HZ2.out; omega]
          go_loopg [8, 12] n2 (fun g v8 v12 wr => W = wr ∧ ∃ (j : Nat) (Y3 : ByteArray), j ≤ n2 ∧ g = n2 - j ∧ v12 = .int .i64 (j : Nat) ∧ v8 = .string Y3 ∧ Hid (bl Y3 = bl Y2 ++ List.replicate j 9))
          case atStart => exact ⟨rfl, 0, Y2, Nat.zero_le _, rfl, rfl, rfl, Lib.hid (by simp)⟩
          case round =>
            obtain ⟨rfl, j, Y3, hj, hg, rfl, rfl, HY3⟩ := hrel
            have HG := Lib.hid hg
            have hz := congrArg List.length HY3.out
            rw [bl_len, List.length_append, bl_len, List.length_replicate] at hz
            have HZ3 := Lib.hid hz
            clear hg hz
            by_cases hlt : j < n2
            · have q0 : (j : Int) < (n2 : Int) := by omega
              have q1 : ¬ 9223372036854775807 < Y3.size + 1 := by have := HZ3.out; have := HZ2.out; have := HN2.out; have := HN1.out; have := HS.out; omega
              have e1 : IntKind.i64.wrap ((j : Int) + 1) = (j : Int) + 1 := IntWalk.i64_in _ (by have := HN2.out; omega)
              have HLT := Lib.hid hlt
              clear hlt
              go_wp2
              go_roundg (n2 - (j + 1))
              case measure => rw [HG.out]; have := HLT.out; omega
              case rel => exact ⟨rfl, j + 1, _, HLT.out, rfl, by go_num, rfl, Lib.hid (by rw [bl_append, HY3.out, List.replicate_succ', List.append_assoc]; rfl)⟩
            · obtain rfl : j = n2 := by omega
              have q0 : ¬ ((j : Int) < (j : Int)) := by omega
              have q1 : ¬ 9223372036854775807 < Y3.size + 1 := by have := HZ3.out; have := HZ2.out; have := HN2.out; have := HN1.out; have := HS.out; omega
              have HRR := Lib.hid (show Calls Tryd.prog 9 #[.string (Y3 ++ ⟨#[10]⟩), .int .i64 0, .int .u8 0] W fun e w' => (∃ v, e = .returned (.tuple #[v, .int .u8 0]) ∧ RowP w' W.heap.size v [⟨51, i, i + (bl s).length + 2, bl s, true, true⟩]) ∧ Up W w' from by
                have h := HR.out W HT.out (Y3 ++ ⟨#[10]⟩) (by
                  have h1 := congrArg List.length (show bl (Y3 ++ ⟨#[10]⟩) = _ from bl_append _ _)
                  rw [bl_len, List.length_append, bl_len, show (bl ⟨#[10]⟩).length = 1 from rfl] at h1
                  have := HZ3.out; have := HZ2.out; have := HN2.out; have := HN1.out; have := HS.out; omega)
                rw [rdE_quote i j (bl s) HNO.out _ (bl_quote HY.out HY2.out HY3.out)] at h
                exact h)
              clear hlt HG hj
              go_wp2_with (first
                | (go_at_call 9; ((with_reducible refine (HRR.out).mono ?_); rintro e w1 ⟨⟨v, rfl, hrow⟩, hu⟩; obtain ⟨g, c, rfl, hg0, hg1, hc⟩ := rowP_cells hrow (by simp); have c0 : w1.cell? ⟨g, 0, none⟩ = some (.int .u8 51) := hc 0 (by simp) 0 _ rfl; have c1 : w1.cell? ⟨g, 1, none⟩ = some (.int .i64 (Y.size : Nat)) := (hc 0 (by simp) 1 _ rfl).trans (by rw [HZ.out]; rfl); have c2 : w1.cell? ⟨g, 2, none⟩ = some (.int .i64 (Y2.size : Nat)) := (hc 0 (by simp) 2 _ rfl).trans (by rw [HZ2.out, bl_len]; rfl); have c3 : w1.cell? ⟨g, 3, none⟩ = some (.string s) := (hc 0 (by simp) 3 _ rfl).trans (congrArg (fun t => some (Value.string t)) (toB_bl s)); have c4 : w1.cell? ⟨g, 4, none⟩ = some (.bool true) := hc 0 (by simp) 4 _ rfl; have c5 : w1.cell? ⟨g, 5, none⟩ = some (.bool true) := hc 0 (by simp) 5 _ rfl; have HU := Lib.hid hu; clear hrow hu hc))
                | (go_at_call 8; ((with_reducible refine (HK.out _ (HT.out.up HU.out)).mono ?_); rintro e w3 ⟨rfl, hu⟩; have HU := Lib.hid (HU.out.trans hu); clear hu)))
              go_ret
              exact ⟨rfl, HU.out⟩
theorem quoted_walk (W : World) (hT : TabH W) (s : ByteArray) (x y : Int) (hx : (Lit.int .u8 x).wf = true) (hy : (Lit.int .u8 y).wf = true) : Calls Tryd.prog 6 #[.string s, .int .u8 x, .int .u8 y] W fun e w' => e = .returned (.bool true) ∧ Up W w' := by
  have hxr := bounds_u8 hx
  have hyr := bounds_u8 hy
  obtain ⟨m, rfl⟩ : ∃ m : Nat, x = (m : Nat) := ⟨x.toNat, by omega⟩
  obtain ⟨n, rfl⟩ : ∃ m : Nat, y = (m : Nat) := ⟨y.toNat, by omega⟩
  by_cases hs : (4096 : Int) < s.size
  · exact quoted_far W hT s m n hs
  · have e : ∀ k : Nat, (k : Int) ≤ 255 → (wrap64 (k : Int)).tmod 5 = ((k % 5 : Nat) : Int) := fun k hk => by
      have h1 : wrap64 (k : Int) = k := IntWalk.wrap64_in _ (by omega)
      rw [h1, Int.tmod_eq_emod_of_nonneg (by omega)]
      omega
    exact quoted_near W hT s m n (m % 5) (n % 5) (by omega) (e m hxr.2) (e n hyr.2) (Nat.mod_lt _ (by decide)) (Nat.mod_lt _ (by decide))
end Go.Proofs.YtmeipmkiknekjaaDoor
