/- The program's behind and endsAhead: where lines begin, and how many end ahead of a place. -/
import Derived.Test.YtcbmigkdmmmahaaDoorDown
import Derived.Test.YtcbmigkdmmmahaaDoorLines
namespace Go.Proofs.YtcbmigkdmmmahaaDoor
open Go.RowKit

set_option maxRecDepth 100000 in
set_option maxHeartbeats 400000 in
theorem endsAhead_nil (i : Int) (w : World) : Calls Tryd.prog 38 #[.pointer none, .int .i64 i] w fun e w' => e = .returned (.int .i64 0) ∧ w = w' := by
  go_enter Tryd.func38, Tryd.ntmps38
  go_wp2
  go_ret
  exact ⟨rfl, rfl⟩

set_option maxRecDepth 100000 in
set_option maxHeartbeats 1000000 in
theorem endsAhead_any (t0 : T) (b0 i0 : Nat) (w : World) (hn : Node w t0 b0) (hk : i0 ≤ t0.text.size) (hs : (t0.text.size : Int) ≤ 1048576) :
    Calls Tryd.prog 38 #[.pointer (some ⟨b0, 0, none⟩), .int .i64 (i0 : Nat)] w fun e w' => e = .returned (.int .i64 (na t0.text i0 : Nat)) ∧ w = w' := by
  obtain ⟨V, hV⟩ : ∃ V, na t0.text i0 = V := ⟨_, rfl⟩
  have hVb : V ≤ 1048576 := by
    rw [← hV]; unfold na
    have := nl_le (t0.text.extract 0 i0)
    rw [ByteArray.size_extract] at this
    omega
  have HVB := Lib.hid hVb
  rw [hV]
  clear hVb
  go_enter Tryd.func38, Tryd.ntmps38
  go_wp2
  go_loopg [0, 1, 5] t0.dp (fun g n i c wr => w = wr ∧ ∃ (t : T) (b k m : Nat), g = t.dp ∧ n = .pointer (some ⟨b, 0, none⟩) ∧ i = .int .i64 (k : Nat) ∧ c = .int .i64 (m : Nat) ∧ Hid (Node w t b) ∧ Hid (k ≤ t.text.size) ∧ Hid (t.text.size ≤ 1048576) ∧ Hid (m + na t.text k = V))
  case atStart => exact ⟨rfl, t0, b0, i0, 0, rfl, rfl, rfl, rfl, Lib.hid hn, Lib.hid hk, Lib.hid (by omega), Lib.hid (by omega)⟩
  case round =>
    obtain ⟨rfl, t, b, k, m, hg, rfl, rfl, rfl, hN, hK, hS, hB⟩ := hrel
    have hm : (m : Int) ≤ 1048576 := by have := hB.out; have := HVB.out; omega
    cases t with
    | leaf s =>
      obtain ⟨c6, c8⟩ := hN.out.leaf_cells
      have hK' : k ≤ s.size := hK.out
      have hb0 : (0 : Int) ≤ k := by omega
      have hb1 : (k : Int) ≤ s.size := by omega
      have hb2 : (s.size : Int) ≤ 1048576 := by have : s.size ≤ 1048576 := hS.out; omega
      obtain ⟨q, hq⟩ : ∃ q, na s k = q := ⟨_, rfl⟩
      have hB' : m + na s k = V := hB.out
      rw [hq] at hB'
      have hqb : (q : Int) ≤ 1048576 := by have := HVB.out; omega
      have HC := Lib.hid (Tryd.strings_Count_one (s.extract 0 k) 10 w)
      have hcb : Lib.countByte (s.extract 0 k).data.toList 10 = q := hq
      rw [hcb] at HC
      have HB := Lib.hid hB'
      have HG := Lib.hid hg
      have HQ := Lib.hid hcb
      clear hg hB' hcb hq
      go_wp2_with (first | (go_at_call 43; refine (isLeaf_yes _ _ c6).mono ?_; rintro e w' ⟨rfl, rfl⟩) | (go_at_call 50; ((with_reducible refine HC.out.mono ?_); rintro e w' ⟨rfl, hw⟩; obtain rfl : w = w' := hw.symm)))
      go_ret
      exact ⟨ret_int (by have := HB.out; omega), rfl⟩
    | node l r =>
      obtain ⟨bl, br, hc, nl', nr⟩ := hN.out.mk
      have c6 : w.cell? ⟨b, 6, none⟩ = some (.pointer (some ⟨bl, 0, none⟩)) := cellOf hc rfl
      have c7 : w.cell? ⟨b, 7, none⟩ = some (.pointer (some ⟨br, 0, none⟩)) := cellOf hc rfl
      have l0 := nl'.sz
      have l1 := nl'.ends
      have hz : l.text.size + r.text.size ≤ 1048576 := by have : (l.text ++ r.text).size ≤ 1048576 := hS.out; rw [ByteArray.size_append] at this; exact this
      have hkz : k ≤ l.text.size + r.text.size := by have : k ≤ (l.text ++ r.text).size := hK.out; rw [ByteArray.size_append] at this; exact this
      have hBt : m + na (l.text ++ r.text) k = V := hB.out
      have hnl := nl_le l.text
      have HG : Hid (gk = 1 + max l.dp r.dp) := Lib.hid hg
      have HL := Lib.hid nl'
      have HR := Lib.hid nr
      have HZ := Lib.hid hz
      clear nl' nr hc hg
      by_cases hl : k ≤ l.text.size
      · have HB2 : Hid (m + na l.text k = V) := Lib.hid (by rw [← hBt, na_left hl])
        have HK2 := Lib.hid hl
        clear hBt hkz hz hnl
        go_wp2_with (go_at_call 43; refine (isLeaf_no _ _ _ c6).mono ?_; rintro e w' ⟨rfl, rfl⟩)
        go_roundg l.dp
        case measure => rw [HG.out]; omega
        case rel => exact ⟨rfl, l, bl, k, m, rfl, rfl, rfl, rfl, HL, HK2, Lib.hid (by have := HZ.out; omega), HB2⟩
      · rw [na_right (by omega) hkz] at hBt
        have e1 : IntKind.i64.wrap ((k : Int) - (l.text.size : Nat)) = ((k - l.text.size : Nat) : Int) := (IntWalk.i64_in _ (by omega)).trans (by omega)
        have hnb : (nl l.text : Int) ≤ 1048576 := by omega
        have HB2 : Hid (m + nl l.text + na r.text (k - l.text.size) = V) := Lib.hid (by omega)
        have HK2 : Hid (k - l.text.size ≤ r.text.size) := Lib.hid (by omega)
        have hl' : l.text.size < k := by omega
        have hb2 : (k : Int) ≤ 1048576 := by omega
        clear hBt hkz hz hl hnl
        go_wp2_with (go_at_call 43; refine (isLeaf_no _ _ _ c6).mono ?_; rintro e w' ⟨rfl, rfl⟩)
        go_roundg r.dp
        case measure => rw [HG.out]; omega
        case rel => exact ⟨rfl, r, br, k - l.text.size, m + nl l.text, rfl, rfl, by go_num, by go_num, HR, HK2, Lib.hid (by have := HZ.out; omega), HB2⟩

set_option maxRecDepth 100000 in
set_option maxHeartbeats 400000 in
theorem behind_zero (v : Value) (w : World) : Calls Tryd.prog 37 #[v, .int .i64 0] w fun e w' => e = .returned (.int .i64 0) ∧ w = w' := by
  go_enter Tryd.func37, Tryd.ntmps37
  go_wp2
  go_ret
  exact ⟨rfl, rfl⟩

set_option maxRecDepth 100000 in
set_option maxHeartbeats 2000000 in
theorem behind_any (t0 : T) (b0 k0 : Nat) (w : World) (hn : Node w t0 b0) (h0 : 0 < k0) (hk : k0 ≤ nl t0.text) (hs : (t0.text.size : Int) ≤ 1048576) :
    Calls Tryd.prog 37 #[.pointer (some ⟨b0, 0, none⟩), .int .i64 (k0 : Nat)] w fun e w' => e = .returned (.int .i64 (bh t0.text k0 : Nat)) ∧ w = w' := by
  obtain ⟨V, hV⟩ : ∃ V, bh t0.text k0 = V := ⟨_, rfl⟩
  have hVb : V ≤ 1048576 := by
    rw [← hV]
    have := bh_le t0.text k0
    omega
  have HVB := Lib.hid hVb
  rw [hV]
  have z0 : ((k0 : Int) == 0) = false := by simp; omega
  clear hVb
  go_enter Tryd.func37, Tryd.ntmps37
  go_wp2
  go_loopg [0, 1, 5] t0.dp (fun g n i c wr => w = wr ∧ ∃ (t : T) (b k m : Nat), g = t.dp ∧ n = .pointer (some ⟨b, 0, none⟩) ∧ i = .int .i64 (k : Nat) ∧ c = .int .i64 (m : Nat) ∧ Hid (Node w t b) ∧ 0 < k ∧ Hid (k ≤ nl t.text) ∧ Hid (t.text.size ≤ 1048576) ∧ Hid (m + bh t.text k = V))
  case atStart => exact ⟨rfl, t0, b0, k0, 0, rfl, rfl, rfl, rfl, Lib.hid hn, h0, Lib.hid hk, Lib.hid (by omega), Lib.hid (by omega)⟩
  case round =>
    obtain ⟨rfl, t, b, k, m, hg, rfl, rfl, rfl, hN, hk0, hK, hS, hB⟩ := hrel
    have hm : (m : Int) ≤ 1048576 := by have := hB.out; have := HVB.out; omega
    cases t with
    | leaf s =>
      obtain ⟨c6, c8⟩ := hN.out.leaf_cells
      have hb2 : (s.size : Int) ≤ 1048576 := by have : s.size ≤ 1048576 := hS.out; omega
      have HG := Lib.hid hg
      have hB' : m + bhL s.data.toList k = V := hB.out
      have hK' : k ≤ s.data.toList.count 10 := hK.out
      have HB := Lib.hid hB'
      have HK := Lib.hid hK'
      clear hg hm hB' hK' z0
      go_wp2_with (go_at_call 43; refine (isLeaf_yes _ _ c6).mono ?_; rintro e w' ⟨rfl, rfl⟩)
      go_loopg [1, 5, 6] (s.size + 1) (fun g kv cv iv wr => w = wr ∧ ∃ (k m i : Nat), g = s.size + 1 - i ∧ kv = .int .i64 (k : Nat) ∧ cv = .int .i64 (m : Nat) ∧ iv = .int .i64 (i : Nat) ∧ i ≤ s.size ∧ Hid (k ≤ (s.data.toList.drop i).count 10) ∧ Hid (m + bhL (s.data.toList.drop i) k = V))
      case atStart => exact ⟨rfl, k, m, 0, rfl, rfl, rfl, rfl, by omega, Lib.hid (by rw [List.drop_zero]; exact HK.out), Lib.hid (by rw [List.drop_zero]; exact HB.out)⟩
      case round =>
        obtain ⟨rfl, k, m, i, hg, rfl, rfl, rfl, hi, hK, hB⟩ := hrel
        by_cases hpos : 0 < k
        · have hlt : i < s.size := by
            have h1 := hK.out
            have h2 := List.count_le_length (a := (10 : UInt8)) (l := s.data.toList.drop i)
            rw [List.length_drop] at h2
            simp at h2
            omega
          have hbd := bh_drop s i k hpos hlt
          have hcd := count_drop s i hlt
          have hmb : (m : Int) + 1 ≤ 1048577 := by have := hB.out; have := HVB.out; omega
          have hkb : (k : Int) ≤ 1048576 := by
            have h1 := hK.out
            have h2 := List.count_le_length (a := (10 : UInt8)) (l := s.data.toList.drop i)
            rw [List.length_drop] at h2
            simp at h2
            omega
          have hib : (i : Int) < s.size := by omega
          have HG := Lib.hid hg
          by_cases hx : s[i] = 10
          · rw [if_pos hx] at hbd hcd
            have hx1 : (((s[i].toNat : Nat) : Int) == 10) = true := by rw [hx]; rfl
            have HK2 : Hid (k - 1 ≤ (s.data.toList.drop (i + 1)).count 10) := Lib.hid (by have := hK.out; omega)
            have HB2 : Hid (m + 1 + bhL (s.data.toList.drop (i + 1)) (k - 1) = V) := Lib.hid (by have := hB.out; omega)
            have HX := Lib.hid hx
            have e1 : IntKind.i64.wrap ((k : Int) - 1) = ((k - 1 : Nat) : Int) := (IntWalk.i64_in _ (by omega)).trans (by omega)
            clear hbd hcd hx hg
            go_wp2
            go_roundg (s.size + 1 - (i + 1))
            case measure => rw [HG.out]; omega
            case rel => exact ⟨rfl, k - 1, m + 1, i + 1, rfl, by go_num, by go_num, by go_num, by omega, HK2, HB2⟩
          · rw [if_neg hx] at hbd hcd
            have hx1 : (((s[i].toNat : Nat) : Int) == 10) = false := by
              rw [beq_eq_false_iff_ne]
              intro h
              exact hx (by apply UInt8.toNat.inj; show s[i].toNat = 10; omega)
            have HK2 : Hid (k ≤ (s.data.toList.drop (i + 1)).count 10) := Lib.hid (by have := hK.out; omega)
            have HB2 : Hid (m + 1 + bhL (s.data.toList.drop (i + 1)) k = V) := Lib.hid (by have := hB.out; omega)
            have HX := Lib.hid hx
            clear hbd hcd hx hg
            go_wp2
            go_roundg (s.size + 1 - (i + 1))
            case measure => rw [HG.out]; omega
            case rel => exact ⟨rfl, k, m + 1, i + 1, rfl, rfl, by go_num, by go_num, by omega, HK2, HB2⟩
        · have hk0' : (k : Int) ≤ 0 := by omega
          have HF : Hid (m = V) := Lib.hid (by
            have h1 := hB.out
            rw [show k = 0 from by omega, bhL_zero] at h1
            exact h1)
          clear hpos hg
          go_wp2
          go_ret
          exact ⟨ret_int (by rw [HF.out]), rfl⟩
    | node l r =>
      obtain ⟨bl, br, hc, nl', nr⟩ := hN.out.mk
      have c6 : w.cell? ⟨b, 6, none⟩ = some (.pointer (some ⟨bl, 0, none⟩)) := cellOf hc rfl
      have c7 : w.cell? ⟨b, 7, none⟩ = some (.pointer (some ⟨br, 0, none⟩)) := cellOf hc rfl
      have l0 := nl'.sz
      have l1 := nl'.ends
      have hz : l.text.size + r.text.size ≤ 1048576 := by have : (l.text ++ r.text).size ≤ 1048576 := hS.out; rw [ByteArray.size_append] at this; exact this
      have hkz : k ≤ nl l.text + nl r.text := by have : k ≤ nl (l.text ++ r.text) := hK.out; rw [nl_append] at this; exact this
      have hBt : m + bh (l.text ++ r.text) k = V := hB.out
      have hnl := nl_le l.text
      have hnr := nl_le r.text
      have HG : Hid (gk = 1 + max l.dp r.dp) := Lib.hid hg
      have HL := Lib.hid nl'
      have HR := Lib.hid nr
      have HZ := Lib.hid hz
      clear nl' nr hc hg
      by_cases hl : k ≤ nl l.text
      · have HB2 : Hid (m + bh l.text k = V) := Lib.hid (by rw [← hBt, bh_left hl])
        have HK2 := Lib.hid hl
        clear hBt hkz hz hnl hnr
        go_wp2_with (go_at_call 43; refine (isLeaf_no _ _ _ c6).mono ?_; rintro e w' ⟨rfl, rfl⟩)
        go_roundg l.dp
        case measure => rw [HG.out]; omega
        case rel => exact ⟨rfl, l, bl, k, m, rfl, rfl, rfl, rfl, HL, hk0, HK2, Lib.hid (by have := HZ.out; omega), HB2⟩
      · rw [bh_right (by omega)] at hBt
        have e1 : IntKind.i64.wrap ((k : Int) - (nl l.text : Nat)) = ((k - nl l.text : Nat) : Int) := (IntWalk.i64_in _ (by omega)).trans (by omega)
        have hnb : (nl l.text : Int) ≤ 1048576 := by omega
        have HB2 : Hid (m + l.text.size + bh r.text (k - nl l.text) = V) := Lib.hid (by omega)
        have HK2 : Hid (k - nl l.text ≤ nl r.text) := Lib.hid (by omega)
        have hl' : nl l.text < k := by omega
        have hb2 : (k : Int) ≤ 1048576 := by omega
        have hb3 : (l.text.size : Int) ≤ 1048576 := by omega
        have hp : 0 < k - nl l.text := by omega
        clear hBt hkz hz hl hnl hnr
        go_wp2_with (go_at_call 43; refine (isLeaf_no _ _ _ c6).mono ?_; rintro e w' ⟨rfl, rfl⟩)
        go_roundg r.dp
        case measure => rw [HG.out]; omega
        case rel => exact ⟨rfl, r, br, k - nl l.text, m + l.text.size, rfl, rfl, by go_num, by go_num, HR, hp, HK2, Lib.hid (by have := HZ.out; omega), HB2⟩
end Go.Proofs.YtcbmigkdmmmahaaDoor
