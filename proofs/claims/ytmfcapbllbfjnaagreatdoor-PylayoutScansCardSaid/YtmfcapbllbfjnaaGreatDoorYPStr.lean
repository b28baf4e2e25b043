/- The program's own, textEnd, isPrefix, opening. -/
import Derived.Test.YtmfcapbllbfjnaaGreatDoorYPTabs
import Derived.Test.YtmfcapbllbfjnaaGreatDoorYPShape
import Derived.Test.YtmfcapbllbfjnaaGreatDoorYPLow
namespace Go.Proofs.YtmfcapbllbfjnaaGreatDoor
open Go.RowKit

theorem hp_bl (s p : ByteArray) : Lib.hasPrefix s.data.toList p.data.toList = (bl p).isPrefixOf (bl s) := by
  unfold Lib.hasPrefix
  rw [pre_iff, bl_len, Bool.eq_iff_iff, List.isPrefixOf_iff_prefix, List.prefix_iff_eq_take, decide_eq_true_eq, take_bytes]
  constructor
  · intro h
    congr 1
    apply ByteArray.ext
    apply Array.toList_inj.1
    rw [h, Lib.extract_data, ← Lib.size_eq]
    simp
  · intro h
    have := congrArg (fun b : ByteArray => b.data.toList) (bl_inj h)
    simp only [Lib.extract_data, List.drop_zero, Nat.sub_zero] at this
    rw [← Lib.size_eq]
    exact this.symm
theorem has_any (s p : ByteArray) (w : World) : Calls Tryz.prog 77 #[.string s, .string p] w fun e w' => e = .returned (.bool ((bl p).isPrefixOf (bl s))) ∧ w = w' := by
  refine (Tryz.strings_HasPrefix s p w).mono ?_
  rintro e w' ⟨rfl, rfl⟩
  exact ⟨by rw [hp_bl], rfl⟩
theorem hasAt_any (s p : ByteArray) (i : Nat) (w : World) : Calls Tryz.prog 77 #[.string (s.extract i s.size), .string p] w fun e w' => e = .returned (.bool ((bl p).isPrefixOf ((bl s).drop i))) ∧ w = w' := by
  rw [drop_bytes]
  exact has_any _ _ _
theorem ib_own {s : ByteArray} : (Lib.indexByte s.data.toList 10 = -1 ∧ ownB s = s) ∨ ∃ i : Nat, Lib.indexByte s.data.toList 10 = i ∧ i < s.size ∧ (⟨(Lib.trimSuffix (s.extract 0 i).data.toList [13]).toArray⟩ : ByteArray) = ownB s := by
  rcases ib_lf s.data.toList with ⟨h1, -⟩ | ⟨i, h1, h2, -⟩
  · exact .inl ⟨h1, own_miss h1⟩
  · exact .inr ⟨i, h1, by rw [Lib.size_eq]; exact h2, own_hit h1⟩
set_option maxRecDepth 100000 in
set_option maxHeartbeats 4000000 in
theorem cutLow_any (s : ByteArray) (w : World) (hs : (s.size : Int) ≤ 1000000) : Calls Tryz.prog 75 #[.string s, .string ⟨#[10]⟩] w fun e w' => ((ownB s = s ∧ e = .returned (.tuple #[.string s, .string ⟨#[]⟩, .bool false])) ∨ ∃ (h t : ByteArray), (⟨(Lib.trimSuffix h.data.toList [13]).toArray⟩ : ByteArray) = ownB s ∧ h.size ≤ s.size ∧ e = .returned (.tuple #[.string h, .string t, .bool true])) ∧ Up w w' := by
  have HI := Lib.hid (fun W => Tryz.stringslite_Index_one s 10 W)
  rcases ib_own (s := s) with ⟨h1, h2⟩ | ⟨i, h1, h2, h3⟩
  · rw [h1] at HI
    clear h1 hs
    go_enter Tryz.func75, Tryz.ntmps75
    go_wp2_with (go_at_call 82; (with_reducible refine (HI.out _).mono ?_); rintro e w1 ⟨rfl, rfl⟩)
    go_ret3
    exact ⟨.inl ⟨h2, rfl⟩, Up.refl _⟩
  · rw [h1] at HI
    have p0 : (0 : Int) ≤ (i : Int) := by omega
    have p1 : (i : Int) ≤ (s.size : Int) := by omega
    have p2 : (0 : Int) ≤ (i : Int) + 1 := by omega
    have p3 : (i : Int) + 1 ≤ (s.size : Int) := by omega
    have e1 : IntKind.i64.wrap ((i : Int) + 1) = (i : Int) + 1 := IntWalk.i64_in _ (by omega)
    have e2 : wrap64 ((i : Int) + 1) = (i : Int) + 1 := IntWalk.wrap64_in _ (by omega)
    have hsz : (s.extract 0 i).size ≤ s.size := by rw [ByteArray.size_extract]; omega
    clear h1 hs
    go_enter Tryz.func75, Tryz.ntmps75
    go_wp2_with (go_at_call 82; (with_reducible refine (HI.out _).mono ?_); rintro e w1 ⟨rfl, rfl⟩)
    go_quiet (fail)
    go_wp2
    go_ret3
    exact ⟨.inr ⟨_, _, h3, hsz, rfl⟩, Up.drewN _ _⟩
set_option maxRecDepth 100000 in
set_option maxHeartbeats 4000000 in
theorem cut_any (s : ByteArray) (w : World) (hs : (s.size : Int) ≤ 1000000) : Calls Tryz.prog 65 #[.string s, .string ⟨#[10]⟩] w fun e w' => ((ownB s = s ∧ e = .returned (.tuple #[.string s, .string ⟨#[]⟩, .bool false])) ∨ ∃ (h t : ByteArray), (⟨(Lib.trimSuffix h.data.toList [13]).toArray⟩ : ByteArray) = ownB s ∧ h.size ≤ s.size ∧ e = .returned (.tuple #[.string h, .string t, .bool true])) ∧ Up w w' := by
  have HC := Lib.hid (fun W => cutLow_any s W hs)
  go_enter Tryz.func65, Tryz.ntmps65
  go_wp2_with (go_at_call 75; (with_reducible refine (HC.out _).mono ?_); rintro e w1 ⟨⟨h1, rfl⟩ | ⟨h, t, h1, h2, rfl⟩, hu⟩)
  · go_ret3
    exact ⟨.inl ⟨h1, rfl⟩, hu⟩
  · go_ret3
    exact ⟨.inr ⟨h, t, h1, h2, rfl⟩, hu⟩
set_option maxRecDepth 100000 in
set_option maxHeartbeats 4000000 in
theorem own_any (s : ByteArray) (w : World) (hs : (s.size : Int) ≤ 1000000) : Calls Tryz.prog 46 #[.string s] w fun e w' => e = .returned (.string (ownB s)) ∧ Up w w' := by
  have HC := Lib.hid (fun W => cut_any s W hs)
  have HT := Lib.hid (fun W (h : ByteArray) (k : h.size ≤ s.size) => Tryz.strings_TrimSuffix h ⟨#[13]⟩ W (by omega))
  clear hs
  go_enter Tryz.func46, Tryz.ntmps46
  go_wp2_with (first | (go_at_call 65; (with_reducible refine (HC.out _).mono ?_); rintro e w1 ⟨⟨h1, rfl⟩ | ⟨h, t, h1, h2, rfl⟩, hu⟩ <;> (have HU := Lib.hid hu; clear hu; have H1 := Lib.hid h1; clear h1)) | (go_at_call 41; (with_reducible refine (HT.out _ h h2).mono ?_); rintro e w2 ⟨rfl, rfl⟩))
  · go_ret
    exact ⟨by rw [H1.out]; rfl, HU.out⟩
  · go_ret
    exact ⟨congrArg (fun x => Ending.returned (Value.string x)) H1.out, HU.out⟩
set_option maxRecDepth 100000 in
set_option maxHeartbeats 4000000 in
theorem textEnd_any (s t : ByteArray) (p0 : Nat) (w : World) (hs : (s.size : Int) ≤ 1000000) (ht : t.size ≤ 100) (ht1 : 1 ≤ t.size) (hp : p0 ≤ s.size) : Calls Tryz.prog 76 #[.string s, .int .i64 (p0 : Nat), .string t] w fun e w' => e = .returned (.tuple #[.int .i64 ((p0 + (clo (bl t) ((bl s).drop p0)).1 : Nat) : Int), .bool ((clo (bl t) ((bl s).drop p0)).2 == 0), .bool ((clo (bl t) ((bl s).drop p0)).2 == 1)]) ∧ w = w' := by
  obtain ⟨k1, k2, k3, k4⟩ := clo_le (bl t) (by rw [bl_len]; exact ht1) ((bl s).drop p0)
  rw [List.length_drop, bl_len] at k1 k3
  obtain ⟨N, hN⟩ : ∃ N, p0 + (clo (bl t) ((bl s).drop p0)).1 = N := ⟨_, rfl⟩
  obtain ⟨K, hK⟩ : ∃ K, (clo (bl t) ((bl s).drop p0)).2 = K := ⟨_, rfl⟩
  rw [hN, hK]
  rw [hK] at k3
  have HE := Lib.hid (show K ≠ 0 → N = s.size from fun h => by have := k3 h; omega)
  have HA := Lib.hid (fun W p => hasAt_any s t p W)
  have HN := Lib.hid (show (p0 ≤ s.size ∧ p0 + (clo (bl t) ((bl s).drop p0)).1 = N ∧ (clo (bl t) ((bl s).drop p0)).2 = K) ∨ (p0 = s.size + 1 ∧ K = 1) from .inl ⟨hp, hN, hK⟩)
  have HP := Lib.hid hp
  have HS := Lib.hid hs
  have HT := Lib.hid ht
  clear hN hK hs ht hp ht1 k1 k2 k3 k4
  go_enter Tryz.func76, Tryz.ntmps76
  go_wp2
  go_loopg [9] (s.size + 1 - p0) (fun g iv wr => w = wr ∧ ∃ p : Nat, g = s.size + 1 - p ∧ iv = .int .i64 (p : Nat) ∧ Hid ((p ≤ s.size ∧ p + (clo (bl t) ((bl s).drop p)).1 = N ∧ (clo (bl t) ((bl s).drop p)).2 = K) ∨ (p = s.size + 1 ∧ K = 1)))
  case atStart => exact ⟨rfl, p0, rfl, rfl, HN⟩
  case round =>
    clear HN HP
    obtain ⟨rfl, p, hg, rfl, HN⟩ := hrel
    have HG := Lib.hid hg
    clear hg
    by_cases hlt : p < s.size
    · obtain ⟨x, hx⟩ : ∃ x, s[p].toNat = x := ⟨_, rfl⟩
      have hbx : bt s p = x := by rw [← bt_eq hlt]; exact hx
      have hpp : (p : Int) < s.size := by omega
      have hp0 : (0 : Int) ≤ p := by omega
      have hp1 : (p : Int) ≤ s.size := by omega
      obtain ⟨-, hN, hK⟩ : p ≤ s.size ∧ p + (clo (bl t) ((bl s).drop p)).1 = N ∧ (clo (bl t) ((bl s).drop p)).2 = K := HN.out.resolve_right (fun h => by omega)
      have HLt := Lib.hid hlt
      by_cases h92 : x = 92
      · subst h92
        rw [bl_drop hlt, hbx] at hN hK
        have e1 : IntKind.i64.wrap ((p : Int) + 1) = (p : Int) + 1 := IntWalk.i64_in _ (by have := HS.out; omega)
        have e3 : IntKind.i64.wrap ((p : Int) + 1 + 1) = (p : Int) + 1 + 1 := IntWalk.i64_in _ (by have := HS.out; omega)
        have HN2 := Lib.hid (show (p + 2 ≤ s.size ∧ (p + 2) + (clo (bl t) ((bl s).drop (p + 2))).1 = N ∧ (clo (bl t) ((bl s).drop (p + 2))).2 = K) ∨ (p + 2 = s.size + 1 ∧ K = 1) from by
          by_cases hl : p + 1 = s.size
          · rw [bl_end (by omega), clo_last] at hN hK
            exact .inr ⟨by omega, hK.symm⟩
          · have hl2 : p + 1 < s.size := by omega
            rw [bl_drop hl2, clo_esc, show p + 1 + 1 = p + 2 from rfl] at hN hK
            exact .inl ⟨by omega, by rw [← hN]; show _ = p + (_ + 2); omega, hK⟩)
        clear hbx hN hK
        go_wp2
        go_roundg (s.size + 1 - (p + 2))
        case measure => rw [HG.out]; have := HLt.out; omega
        case rel => exact ⟨rfl, p + 2, rfl, by go_num, HN2⟩
      · obtain ⟨B, hB⟩ : ∃ B, (bl t).isPrefixOf ((bl s).drop p) = B := ⟨_, rfl⟩
        have hA := fun W => HA.out W p
        rw [hB] at hA
        have HA2 := Lib.hid hA
        have hB2 : (bl t).isPrefixOf (x :: (bl s).drop (p + 1)) = B := by rw [← hbx, ← bl_drop hlt]; exact hB
        rw [bl_drop hlt, hbx, clo_step h92, hB2] at hN hK
        have h92' : ((x : Int) == 92) = false := beq_eq_false_iff_ne.2 (by omega)
        have e1 : IntKind.i64.wrap ((p : Int) + 1) = (p : Int) + 1 := IntWalk.i64_in _ (by have := HS.out; omega)
        have e4 : IntKind.i64.wrap ((p : Int) + t.size) = (p : Int) + t.size := IntWalk.i64_in _ (by have := HS.out; have := HT.out; omega)
        clear hA hB hB2 hbx h92
        cases B with
        | true =>
          have hN' : p + t.size = N := by rw [← hN, ← bl_len]; rfl
          have hK' : 0 = K := hK
          subst hN' hK'
          clear hN hK
          go_wp2_with (go_at_call 77; ((with_reducible refine (HA2.out _).mono ?_); rintro e w1 ⟨rfl, rfl⟩))
          go_ret3
          exact ⟨rfl, rfl⟩
        | false =>
          have HN2 := Lib.hid (show (p + 1 ≤ s.size ∧ (p + 1) + (clo (bl t) ((bl s).drop (p + 1))).1 = N ∧ (clo (bl t) ((bl s).drop (p + 1))).2 = K) ∨ (p + 1 = s.size + 1 ∧ K = 1) from .inl ⟨hlt, by rw [← hN]; show _ = p + (_ + 1); omega, hK⟩)
          clear hN hK
          go_wp2_with (go_at_call 77; ((with_reducible refine (HA2.out _).mono ?_); rintro e w1 ⟨rfl, rfl⟩))
          go_roundg (s.size + 1 - (p + 1))
          case measure => rw [HG.out]; have := HLt.out; omega
          case rel => exact ⟨rfl, p + 1, rfl, by go_num, HN2⟩
    · have f0 : decide (p < s.size) = false := decide_eq_false hlt
      by_cases hq : p = s.size
      · have h := HN.out.resolve_right (fun h => by omega)
        obtain ⟨-, hN, hK⟩ := h
        rw [bl_end (by omega)] at hN hK
        have hN' : s.size = N := by rw [← hq]; exact hN
        have hK' : 2 = K := hK
        subst hN' hK'
        have f1 : decide (s.size < p) = false := decide_eq_false (by omega)
        clear hlt hN hK hq HE
        go_wp2
        go_ret3
        exact ⟨rfl, rfl⟩
      · obtain ⟨h1, h2⟩ := HN.out.resolve_left (fun h => by omega)
        have hN' : s.size = N := (HE.out (by omega)).symm
        subst hN' h2
        have f1 : s.size < p := by omega
        clear hlt hq h1 HE
        go_wp2
        go_ret3
        exact ⟨rfl, rfl⟩
set_option maxRecDepth 100000 in
set_option maxHeartbeats 4000000 in
theorem isPrefix_any (s : ByteArray) (w : World) (hT : TabsP w) (hs : s.size ≤ 2) : Calls Tryz.prog 78 #[.string s] w fun e w' => e = .returned (.bool (decide ((bl s).map lowN ∈ pres))) ∧ Up w w' := by
  have H := Lib.hid (hT.low s (by omega))
  have e0 : decide ((bl s).map lowN ∈ pres) = decide (bl (lowT s) ∈ pres) := decide_eq_decide.2 (lowT_pres s hs).symm
  rw [e0]
  have H := Lib.hid (show Calls Tryz.prog 84 #[.string s] w fun e w' => e = .returned (.string (lowT s)) ∧ Up w w' from H.out)
  generalize lowT s = T at H ⊢
  clear hT hs e0
  by_cases h0 : T = ⟨#[]⟩
  · subst h0
    rw [show decide (bl (⟨#[]⟩ : ByteArray) ∈ pres) = true from by decide]
    go_enter Tryz.func78, Tryz.ntmps78
    go_wp2_with (go_at_call 84; (with_reducible refine H.out.mono ?_); rintro e w1 ⟨rfl, hu⟩; have HU := Lib.hid hu; clear hu)
    go_ret
    exact ⟨rfl, HU.out⟩
  have g0 : (T.toList == ([] : List UInt8)) = false := by
    rw [beq_eq_false_iff_ne]
    intro e
    exact h0 (bytes_ext (e.trans (ByteArray.toList_eq (⟨#[]⟩ : ByteArray)).symm))
  have q0 : T.toList.isEmpty = false := by
    rw [Bool.eq_false_iff]
    intro e
    exact h0 (bytes_ext ((List.isEmpty_iff.1 e).trans (ByteArray.toList_eq (⟨#[]⟩ : ByteArray)).symm))
  by_cases h1 : T = ⟨#[114]⟩
  · subst h1
    rw [show decide (bl (⟨#[114]⟩ : ByteArray) ∈ pres) = true from by decide]
    clear g0 q0 h0
    go_enter Tryz.func78, Tryz.ntmps78
    go_wp2_with (go_at_call 84; (with_reducible refine H.out.mono ?_); rintro e w1 ⟨rfl, hu⟩; have HU := Lib.hid hu; clear hu)
    go_ret
    exact ⟨rfl, HU.out⟩
  have g1 : (T.toList == ([114] : List UInt8)) = false := by
    rw [beq_eq_false_iff_ne]
    intro e
    exact h1 (bytes_ext (e.trans (ByteArray.toList_eq (⟨#[114]⟩ : ByteArray)).symm))
  have q1 : (([114] : List UInt8) == T.toList) = false := by
    rw [beq_eq_false_iff_ne]
    intro e
    exact h1 (bytes_ext (e.symm.trans (ByteArray.toList_eq (⟨#[114]⟩ : ByteArray)).symm))
  by_cases h2 : T = ⟨#[117]⟩
  · subst h2
    rw [show decide (bl (⟨#[117]⟩ : ByteArray) ∈ pres) = true from by decide]
    clear g0 g1 q0 q1 h0 h1
    go_enter Tryz.func78, Tryz.ntmps78
    go_wp2_with (go_at_call 84; (with_reducible refine H.out.mono ?_); rintro e w1 ⟨rfl, hu⟩; have HU := Lib.hid hu; clear hu)
    go_ret
    exact ⟨rfl, HU.out⟩
  have g2 : (T.toList == ([117] : List UInt8)) = false := by
    rw [beq_eq_false_iff_ne]
    intro e
    exact h2 (bytes_ext (e.trans (ByteArray.toList_eq (⟨#[117]⟩ : ByteArray)).symm))
  have q2 : (([117] : List UInt8) == T.toList) = false := by
    rw [beq_eq_false_iff_ne]
    intro e
    exact h2 (bytes_ext (e.symm.trans (ByteArray.toList_eq (⟨#[117]⟩ : ByteArray)).symm))
  by_cases h3 : T = ⟨#[98]⟩
  · subst h3
    rw [show decide (bl (⟨#[98]⟩ : ByteArray) ∈ pres) = true from by decide]
    clear g0 g1 g2 q0 q1 q2 h0 h1 h2
    go_enter Tryz.func78, Tryz.ntmps78
    go_wp2_with (go_at_call 84; (with_reducible refine H.out.mono ?_); rintro e w1 ⟨rfl, hu⟩; have HU := Lib.hid hu; clear hu)
    go_ret
    exact ⟨rfl, HU.out⟩
  have g3 : (T.toList == ([98] : List UInt8)) = false := by
    rw [beq_eq_false_iff_ne]
    intro e
    exact h3 (bytes_ext (e.trans (ByteArray.toList_eq (⟨#[98]⟩ : ByteArray)).symm))
  have q3 : (([98] : List UInt8) == T.toList) = false := by
    rw [beq_eq_false_iff_ne]
    intro e
    exact h3 (bytes_ext (e.symm.trans (ByteArray.toList_eq (⟨#[98]⟩ : ByteArray)).symm))
  by_cases h4 : T = ⟨#[102]⟩
  · subst h4
    rw [show decide (bl (⟨#[102]⟩ : ByteArray) ∈ pres) = true from by decide]
    clear g0 g1 g2 g3 q0 q1 q2 q3 h0 h1 h2 h3
    go_enter Tryz.func78, Tryz.ntmps78
    go_wp2_with (go_at_call 84; (with_reducible refine H.out.mono ?_); rintro e w1 ⟨rfl, hu⟩; have HU := Lib.hid hu; clear hu)
    go_ret
    exact ⟨rfl, HU.out⟩
  have g4 : (T.toList == ([102] : List UInt8)) = false := by
    rw [beq_eq_false_iff_ne]
    intro e
    exact h4 (bytes_ext (e.trans (ByteArray.toList_eq (⟨#[102]⟩ : ByteArray)).symm))
  have q4 : (([102] : List UInt8) == T.toList) = false := by
    rw [beq_eq_false_iff_ne]
    intro e
    exact h4 (bytes_ext (e.symm.trans (ByteArray.toList_eq (⟨#[102]⟩ : ByteArray)).symm))
  by_cases h5 : T = ⟨#[98, 114]⟩
  · subst h5
    rw [show decide (bl (⟨#[98, 114]⟩ : ByteArray) ∈ pres) = true from by decide]
    clear g0 g1 g2 g3 g4 q0 q1 q2 q3 q4 h0 h1 h2 h3 h4
    go_enter Tryz.func78, Tryz.ntmps78
    go_wp2_with (go_at_call 84; (with_reducible refine H.out.mono ?_); rintro e w1 ⟨rfl, hu⟩; have HU := Lib.hid hu; clear hu)
    go_ret
    exact ⟨rfl, HU.out⟩
  have g5 : (T.toList == ([98, 114] : List UInt8)) = false := by
    rw [beq_eq_false_iff_ne]
    intro e
    exact h5 (bytes_ext (e.trans (ByteArray.toList_eq (⟨#[98, 114]⟩ : ByteArray)).symm))
  have q5 : (([98, 114] : List UInt8) == T.toList) = false := by
    rw [beq_eq_false_iff_ne]
    intro e
    exact h5 (bytes_ext (e.symm.trans (ByteArray.toList_eq (⟨#[98, 114]⟩ : ByteArray)).symm))
  by_cases h6 : T = ⟨#[114, 98]⟩
  · subst h6
    rw [show decide (bl (⟨#[114, 98]⟩ : ByteArray) ∈ pres) = true from by decide]
    clear g0 g1 g2 g3 g4 g5 q0 q1 q2 q3 q4 q5 h0 h1 h2 h3 h4 h5
    go_enter Tryz.func78, Tryz.ntmps78
    go_wp2_with (go_at_call 84; (with_reducible refine H.out.mono ?_); rintro e w1 ⟨rfl, hu⟩; have HU := Lib.hid hu; clear hu)
    go_ret
    exact ⟨rfl, HU.out⟩
  have g6 : (T.toList == ([114, 98] : List UInt8)) = false := by
    rw [beq_eq_false_iff_ne]
    intro e
    exact h6 (bytes_ext (e.trans (ByteArray.toList_eq (⟨#[114, 98]⟩ : ByteArray)).symm))
  have q6 : (([114, 98] : List UInt8) == T.toList) = false := by
    rw [beq_eq_false_iff_ne]
    intro e
    exact h6 (bytes_ext (e.symm.trans (ByteArray.toList_eq (⟨#[114, 98]⟩ : ByteArray)).symm))
  by_cases h7 : T = ⟨#[102, 114]⟩
  · subst h7
    rw [show decide (bl (⟨#[102, 114]⟩ : ByteArray) ∈ pres) = true from by decide]
    clear g0 g1 g2 g3 g4 g5 g6 q0 q1 q2 q3 q4 q5 q6 h0 h1 h2 h3 h4 h5 h6
    go_enter Tryz.func78, Tryz.ntmps78
    go_wp2_with (go_at_call 84; (with_reducible refine H.out.mono ?_); rintro e w1 ⟨rfl, hu⟩; have HU := Lib.hid hu; clear hu)
    go_ret
    exact ⟨rfl, HU.out⟩
  have g7 : (T.toList == ([102, 114] : List UInt8)) = false := by
    rw [beq_eq_false_iff_ne]
    intro e
    exact h7 (bytes_ext (e.trans (ByteArray.toList_eq (⟨#[102, 114]⟩ : ByteArray)).symm))
  have q7 : (([102, 114] : List UInt8) == T.toList) = false := by
    rw [beq_eq_false_iff_ne]
    intro e
    exact h7 (bytes_ext (e.symm.trans (ByteArray.toList_eq (⟨#[102, 114]⟩ : ByteArray)).symm))
  by_cases h8 : T = ⟨#[114, 102]⟩
  · subst h8
    rw [show decide (bl (⟨#[114, 102]⟩ : ByteArray) ∈ pres) = true from by decide]
    clear g0 g1 g2 g3 g4 g5 g6 g7 q0 q1 q2 q3 q4 q5 q6 q7 h0 h1 h2 h3 h4 h5 h6 h7
    go_enter Tryz.func78, Tryz.ntmps78
    go_wp2_with (go_at_call 84; (with_reducible refine H.out.mono ?_); rintro e w1 ⟨rfl, hu⟩; have HU := Lib.hid hu; clear hu)
    go_ret
    exact ⟨rfl, HU.out⟩
  have g8 : (T.toList == ([114, 102] : List UInt8)) = false := by
    rw [beq_eq_false_iff_ne]
    intro e
    exact h8 (bytes_ext (e.trans (ByteArray.toList_eq (⟨#[114, 102]⟩ : ByteArray)).symm))
  have q8 : (([114, 102] : List UInt8) == T.toList) = false := by
    rw [beq_eq_false_iff_ne]
    intro e
    exact h8 (bytes_ext (e.symm.trans (ByteArray.toList_eq (⟨#[114, 102]⟩ : ByteArray)).symm))
  have hn : decide (bl T ∈ pres) = false := by
    apply decide_eq_false
    intro k
    rw [← presB_bl, List.mem_map] at k
    obtain ⟨a, ha, he⟩ := k
    have ha2 := bl_inj he
    subst ha2
    unfold presB at ha
    simp only [List.mem_cons, List.not_mem_nil, or_false] at ha
    rcases ha with h | h | h | h | h | h | h | h | h
    · exact h0 h
    · exact h1 h
    · exact h2 h
    · exact h3 h
    · exact h4 h
    · exact h5 h
    · exact h6 h
    · exact h7 h
    · exact h8 h
  rw [hn]
  clear hn h0 h1 h2 h3 h4 h5 h6 h7 h8
  go_enter Tryz.func78, Tryz.ntmps78
  go_wp2_with (go_at_call 84; (with_reducible refine H.out.mono ?_); rintro e w1 ⟨rfl, hu⟩; have HU := Lib.hid hu; clear hu)
  go_ret
  exact ⟨rfl, HU.out⟩
theorem quoV_pos {m : Nat} (h : m ≠ 0) : quoV m = quoB m := by unfold quoV; rw [if_neg h]
set_option maxRecDepth 100000 in
theorem ixQ (j : Nat) (h : j < 5) (W : World) : (Instr.index 91 (.agg #[.string (quoV 0), .string (quoV 1), .string (quoV 2), .string (quoV 3), .string (quoV 4)]) (.int .i64 (j : Nat))).run Tryz.prog W = .ok (.string (quoV j)) W := by
  match j, h with
  | 0, _ => rfl
  | 1, _ => rfl
  | 2, _ => rfl
  | 3, _ => rfl
  | 4, _ => rfl
theorem skip_step (f c : Nat) (r : List Nat) : skipQ (f + 1) (c :: r) = if c = 39 ∨ c = 34 then 0 else skipQ f r + 1 := rfl
theorem skip_nil (f : Nat) : skipQ f [] = 0 := by cases f <;> rfl
theorem skip_zero (l : List Nat) : skipQ 0 l = 0 := rfl
/-- What is told at the quotes of a mark. -/
def openG (l : List Nat) (j : Nat) : Nat × Nat := begG (5 - max j 1) (max j 1) (l.drop (skipQ 2 l)) (skipQ 2 l)
theorem openG_end (l : List Nat) : openG l 5 = (0, 0) := rfl
theorem openG_zero (l : List Nat) : openG l 0 = openG l 1 := rfl
theorem openG_step {l : List Nat} {j : Nat} (h : 1 ≤ j) (h4 : j ≤ 4) : openG l j = if (quo j).isPrefixOf (l.drop (skipQ 2 l)) = true then (j, skipQ 2 l + (quo j).length) else openG l (j + 1) := by
  unfold openG
  rw [show max j 1 = j from by omega, show max (j + 1) 1 = j + 1 from by omega, begG_step h4]
theorem openL_yes {l : List Nat} (h : (l.take (skipQ 2 l)).map lowN ∈ pres) : begL l = openG l 0 := by
  rw [← open_eq]
  unfold openL
  by_cases h0 : (begM (l.drop (skipQ 2 l)) (skipQ 2 l)).1 ≠ 0
  · rw [if_pos ⟨h0, h⟩]; rfl
  · rw [if_neg (fun k => h0 k.1)]
    have h0' : (begM (l.drop (skipQ 2 l)) (skipQ 2 l)).1 = 0 := Classical.byContradiction h0
    have : openG l 0 = begM (l.drop (skipQ 2 l)) (skipQ 2 l) := rfl
    rw [this]
    unfold begM at h0' ⊢
    (repeat' split at h0') <;> simp_all
theorem openL_no {l : List Nat} (h : (l.take (skipQ 2 l)).map lowN ∉ pres) : begL l = (0, 0) := by
  rw [← open_eq]
  unfold openL
  rw [if_neg (fun k => h k.2)]
set_option maxRecDepth 100000 in
set_option maxHeartbeats 4000000 in
theorem opening_any (s : ByteArray) (w : World) (hT : TabsP w) (hs : (s.size : Int) ≤ 1000000) : Calls Tryz.prog 68 #[.string s] w fun e w' => e = .returned (.tuple #[.int .i64 ((begL (bl s)).2 : Nat), .int .u8 ((begL (bl s)).1 : Nat)]) ∧ Up w w' := by
  have hsk := skipQ_le 2 (bl s)
  rw [bl_len] at hsk
  obtain ⟨N, hN⟩ : ∃ N, skipQ 2 (bl s) = N := ⟨_, rfl⟩
  obtain ⟨r, hr⟩ : ∃ r, begL (bl s) = r := ⟨_, rfl⟩
  obtain ⟨PB, hPB⟩ : ∃ PB, decide (((bl s).take N).map lowN ∈ pres) = PB := ⟨_, rfl⟩
  have HG0 := Lib.hid (show (PB = true → openG (bl s) 0 = r) ∧ (PB = false → r = (0, 0)) from
    ⟨fun h => by rw [← hr]; exact (openL_yes (by rw [hN]; rw [h] at hPB; exact of_decide_eq_true hPB)).symm, fun h => by rw [← hr]; exact openL_no (by rw [hN]; rw [h] at hPB; exact of_decide_eq_false hPB)⟩)
  have HPR := Lib.hid (fun W (hw : TabsP W) => (show Calls Tryz.prog 78 #[.string (s.extract 0 N)] W fun e w' => e = .returned (.bool PB) ∧ Up W w' from by
    have := isPrefix_any (s.extract 0 N) W hw (by rw [ByteArray.size_extract]; omega)
    rw [← take_bytes, hPB] at this
    exact this))
  have HHP := Lib.hid (fun W m => hasAt_any s (quoV m) N W)
  rw [hN] at hsk
  have HNB := Lib.hid hsk
  have HN := Lib.hid (show 0 + skipQ (2 - 0) ((bl s).drop 0) = N from by rw [Nat.zero_add]; exact hN)
  have HNN := Lib.hid hN
  have HS := Lib.hid hs
  have HT := Lib.hid hT
  rw [hr]
  clear hN hr hPB hsk hs hT
  go_enter Tryz.func68, Tryz.ntmps68
  go_wp2
  go_loopg [4] 2 (fun g iv wr => w = wr ∧ ∃ k : Nat, g = 2 - k ∧ iv = .int .i64 (k : Nat) ∧ Hid (k ≤ 2 ∧ k ≤ s.size) ∧ Hid (k + skipQ (2 - k) ((bl s).drop k) = N))
  case atStart => exact ⟨rfl, 0, rfl, rfl, Lib.hid ⟨by omega, by omega⟩, HN⟩
  case round =>
    clear HN
    obtain ⟨rfl, k, hg, rfl, HK, HN⟩ := hrel
    have HG := Lib.hid hg
    clear hg
    have e1 : IntKind.i64.wrap ((k : Int) + 1) = (k : Int) + 1 := IntWalk.i64_in _ (by have := HK.out; omega)
    have p0 : (0 : Int) ≤ (k : Int) := by omega
    by_cases h1 : k < s.size
    · have h1' : (k : Int) < s.size := by omega
      obtain ⟨x, hx⟩ : ∃ x, s[k].toNat = x := ⟨_, rfl⟩
      have hbx : bt s k = x := by rw [← bt_eq h1]; exact hx
      have H1 := Lib.hid h1
      by_cases h2 : k < 2
      · have h2' : (k : Int) < 2 := by omega
        have hN := HN.out
        rw [bl_drop h1, hbx, show 2 - k = (2 - (k + 1)) + 1 from by omega, skip_step] at hN
        by_cases h3 : x = 39
        · have h3' : ((x : Int) == 39) = true := beq_iff_eq.2 (by omega)
          have h3n : ((x : Int) != 39) = false := by rw [bne, h3']; rfl
          have hkN : k = N := by rw [if_pos (.inl h3)] at hN; exact hN
          clear hN h3 hbx h2
          subst hkN
          have q0 : w.cell? ⟨1, 0, none⟩ = some (.string (quoV 0)) := HT.out.qu 0 (by decide)
          have q1 : w.cell? ⟨1, 1, none⟩ = some (.string (quoV 1)) := HT.out.qu 1 (by decide)
          have q2 : w.cell? ⟨1, 2, none⟩ = some (.string (quoV 2)) := HT.out.qu 2 (by decide)
          have q3 : w.cell? ⟨1, 3, none⟩ = some (.string (quoV 3)) := HT.out.qu 3 (by decide)
          have q4 : w.cell? ⟨1, 4, none⟩ = some (.string (quoV 4)) := HT.out.qu 4 (by decide)
          have HU := Lib.hid (Up.refl w)
          have HKS := Lib.hid HK.out
          clear HN HG HK e1
          go_wp2
          clear q0 q1 q2 q3 q4
          go_loopg [30] 5 (fun g iv wr => ∃ j : Nat, g = 5 - j ∧ iv = .int .i64 (j : Nat) ∧ Hid (j ≤ 5) ∧ Hid ((PB = true → openG (bl s) j = r) ∧ (PB = false → r = (0, 0))) ∧ Hid (Up w wr))
          case atStart => exact ⟨0, rfl, rfl, Lib.hid (by omega), HG0, HU⟩
          case round =>
            clear HG0 HU
            obtain ⟨j, hg, rfl, HJ, HG0, HU⟩ := hrel
            have HG := Lib.hid hg
            clear hg
            by_cases hj : j < 5
            · have hix := ixQ j hj
              have e2 : IntKind.i64.wrap ((j : Int) + 1) = (j : Int) + 1 := IntWalk.i64_in _ (by omega)
              have j5 : (j : Int) < 5 := by omega
              by_cases hj0 : j = 0
              · subst hj0
                have HG1 := Lib.hid (show (PB = true → openG (bl s) 1 = r) ∧ (PB = false → r = (0, 0)) from HG0.out)
                have hix0 : ∀ W, (Instr.index 91 (.agg #[.string (quoV 0), .string (quoV 1), .string (quoV 2), .string (quoV 3), .string (quoV 4)]) (.int .i64 0)).run Tryz.prog W = .ok (.string (quoV 0)) W := hix
                clear hix e2 j5 hj HG0
                go_wp2
                go_roundg 4
                case measure => rw [HG.out]; omega
                case rel => exact ⟨1, rfl, by go_num, Lib.hid (by omega), HG1, HU⟩
              · have hqv := quoV_pos hj0
                rw [hqv] at hix
                obtain ⟨B, hB⟩ : ∃ B, (quo j).isPrefixOf ((bl s).drop k) = B := ⟨_, rfl⟩
                have hhp := fun W => HHP.out W j
                rw [hqv, quoB_bl, hB] at hhp
                have HHB := Lib.hid hhp
                have hstep := openG_step (l := bl s) (j := j) (by omega) (by omega)
                rw [HNN.out, hB] at hstep
                have HST := Lib.hid hstep
                have HJ5 := Lib.hid hj
                have jpos : (0 : Int) < (j : Int) := by omega
                have k0 : (k : Int) ≤ s.size := by have := HNB.out; omega
                have HQL := Lib.hid (quoB_le j)
                have HTW := Lib.hid (HT.out.up HU.out)
                have HJ0 := Lib.hid hj0
                clear hB hhp hqv hstep hj hj0
                cases B with
                | false =>
                  have HG1 := Lib.hid (show (PB = true → openG (bl s) (j + 1) = r) ∧ (PB = false → r = (0, 0)) from by
                    have h := HST.out
                    rw [if_neg Bool.false_ne_true] at h
                    rw [← h]
                    exact HG0.out)
                  clear HST HG0
                  go_wp2_with (go_at_call 77; ((with_reducible refine (HHB.out _).mono ?_); rintro e w1 ⟨rfl, rfl⟩))
                  go_roundg (5 - (j + 1))
                  case measure => rw [HG.out]; have := HJ5.out; omega
                  case rel => exact ⟨j + 1, rfl, by go_num, Lib.hid HJ5.out, HG1, HU⟩
                | true =>
                  have h := HST.out
                  rw [if_pos rfl] at h
                  have HPRW := Lib.hid (HPR.out wr HTW.out)
                  have e6 : IntKind.i64.wrap ((k : Int) + (quoB j).size) = (k : Int) + (quoB j).size := IntWalk.i64_in _ (by have := HNB.out; have := HQL.out; omega)
                  have e7 : IntKind.u8.wrap (j : Int) = (j : Int) := by have := HJ5.out; unfold IntKind.wrap; simp [IntKind.signed, IntKind.bits]; omega
                  cases PB with
                  | false =>
                    have HG1 := Lib.hid (show (false = true → openG (bl s) (j + 1) = r) ∧ (false = false → r = (0, 0)) from ⟨fun e => absurd e Bool.false_ne_true, HG0.out.2⟩)
                    clear HST HG0 h e6 e7
                    go_wp2_with (first | (go_at_call 77; ((with_reducible refine (HHB.out _).mono ?_); rintro e w1 ⟨rfl, rfl⟩)) | (go_at_call 78; ((with_reducible refine (HPRW.out).mono ?_); rintro e w2 ⟨rfl, hu⟩; have HU2 := Lib.hid (HU.out.trans hu); clear hu)))
                    go_roundg (5 - (j + 1))
                    case measure => rw [HG.out]; have := HJ5.out; omega
                    case rel => exact ⟨j + 1, rfl, by go_num, Lib.hid HJ5.out, HG1, HU2⟩
                  | true =>
                    have hr := HG0.out.1 rfl
                    rw [h] at hr
                    subst hr
                    have HGZ := Lib.hid (show ((k + (quo j).length : Nat) : Int) = (k : Int) + (quoB j).size from by rw [quoB_len]; omega)
                    clear HST HG0 h
                    go_wp2_with (first | (go_at_call 77; ((with_reducible refine (HHB.out _).mono ?_); rintro e w1 ⟨rfl, rfl⟩)) | (go_at_call 78; ((with_reducible refine (HPRW.out).mono ?_); rintro e w2 ⟨rfl, hu⟩; have HU2 := Lib.hid (HU.out.trans hu); clear hu)))
                    go_ret2
                    refine ⟨?_, HU2.out⟩
                    show Ending.returned (Value.tuple #[.int .i64 ((k : Int) + ((quoB j).size : Int)), .int .u8 (j : Int)]) = .returned (.tuple #[.int .i64 ((k + (quo j).length : Nat) : Int), .int .u8 (j : Int)])
                    rw [HGZ.out]
            · have hj5 : j = 5 := by have := HJ.out; omega
              subst hj5
              have hr : r = (0, 0) := by
                have h := HG0.out
                cases PB with
                | true => rw [← h.1 rfl]; exact openG_end _
                | false => exact h.2 rfl
              subst hr
              clear HG0 hj
              go_wp2
              go_ret2
              exact ⟨rfl, HU.out⟩
        have h3' : ((x : Int) == 39) = false := beq_eq_false_iff_ne.2 (by omega)
        have h3n : ((x : Int) != 39) = true := by rw [bne, h3']; rfl
        by_cases h4 : x = 34
        · have h4' : ((x : Int) == 34) = true := beq_iff_eq.2 (by omega)
          have h4n : ((x : Int) != 34) = false := by rw [bne, h4']; rfl
          have hkN : k = N := by rw [if_pos (.inr h4)] at hN; exact hN
          clear hN h3 h4 hbx h2
          subst hkN
          have q0 : w.cell? ⟨1, 0, none⟩ = some (.string (quoV 0)) := HT.out.qu 0 (by decide)
          have q1 : w.cell? ⟨1, 1, none⟩ = some (.string (quoV 1)) := HT.out.qu 1 (by decide)
          have q2 : w.cell? ⟨1, 2, none⟩ = some (.string (quoV 2)) := HT.out.qu 2 (by decide)
          have q3 : w.cell? ⟨1, 3, none⟩ = some (.string (quoV 3)) := HT.out.qu 3 (by decide)
          have q4 : w.cell? ⟨1, 4, none⟩ = some (.string (quoV 4)) := HT.out.qu 4 (by decide)
          have HU := Lib.hid (Up.refl w)
          have HKS := Lib.hid HK.out
          clear HN HG HK e1
          go_wp2
          clear q0 q1 q2 q3 q4
          go_loopg [30] 5 (fun g iv wr => ∃ j : Nat, g = 5 - j ∧ iv = .int .i64 (j : Nat) ∧ Hid (j ≤ 5) ∧ Hid ((PB = true → openG (bl s) j = r) ∧ (PB = false → r = (0, 0))) ∧ Hid (Up w wr))
          case atStart => exact ⟨0, rfl, rfl, Lib.hid (by omega), HG0, HU⟩
          case round =>
            clear HG0 HU
            obtain ⟨j, hg, rfl, HJ, HG0, HU⟩ := hrel
            have HG := Lib.hid hg
            clear hg
            by_cases hj : j < 5
            · have hix := ixQ j hj
              have e2 : IntKind.i64.wrap ((j : Int) + 1) = (j : Int) + 1 := IntWalk.i64_in _ (by omega)
              have j5 : (j : Int) < 5 := by omega
              by_cases hj0 : j = 0
              · subst hj0
                have HG1 := Lib.hid (show (PB = true → openG (bl s) 1 = r) ∧ (PB = false → r = (0, 0)) from HG0.out)
                have hix0 : ∀ W, (Instr.index 91 (.agg #[.string (quoV 0), .string (quoV 1), .string (quoV 2), .string (quoV 3), .string (quoV 4)]) (.int .i64 0)).run Tryz.prog W = .ok (.string (quoV 0)) W := hix
                clear hix e2 j5 hj HG0
                go_wp2
                go_roundg 4
                case measure => rw [HG.out]; omega
                case rel => exact ⟨1, rfl, by go_num, Lib.hid (by omega), HG1, HU⟩
              · have hqv := quoV_pos hj0
                rw [hqv] at hix
                obtain ⟨B, hB⟩ : ∃ B, (quo j).isPrefixOf ((bl s).drop k) = B := ⟨_, rfl⟩
                have hhp := fun W => HHP.out W j
                rw [hqv, quoB_bl, hB] at hhp
                have HHB := Lib.hid hhp
                have hstep := openG_step (l := bl s) (j := j) (by omega) (by omega)
                rw [HNN.out, hB] at hstep
                have HST := Lib.hid hstep
                have HJ5 := Lib.hid hj
                have jpos : (0 : Int) < (j : Int) := by omega
                have k0 : (k : Int) ≤ s.size := by have := HNB.out; omega
                have HQL := Lib.hid (quoB_le j)
                have HTW := Lib.hid (HT.out.up HU.out)
                have HJ0 := Lib.hid hj0
                clear hB hhp hqv hstep hj hj0
                cases B with
                | false =>
                  have HG1 := Lib.hid (show (PB = true → openG (bl s) (j + 1) = r) ∧ (PB = false → r = (0, 0)) from by
                    have h := HST.out
                    rw [if_neg Bool.false_ne_true] at h
                    rw [← h]
                    exact HG0.out)
                  clear HST HG0
                  go_wp2_with (go_at_call 77; ((with_reducible refine (HHB.out _).mono ?_); rintro e w1 ⟨rfl, rfl⟩))
                  go_roundg (5 - (j + 1))
                  case measure => rw [HG.out]; have := HJ5.out; omega
                  case rel => exact ⟨j + 1, rfl, by go_num, Lib.hid HJ5.out, HG1, HU⟩
                | true =>
                  have h := HST.out
                  rw [if_pos rfl] at h
                  have HPRW := Lib.hid (HPR.out wr HTW.out)
                  have e6 : IntKind.i64.wrap ((k : Int) + (quoB j).size) = (k : Int) + (quoB j).size := IntWalk.i64_in _ (by have := HNB.out; have := HQL.out; omega)
                  have e7 : IntKind.u8.wrap (j : Int) = (j : Int) := by have := HJ5.out; unfold IntKind.wrap; simp [IntKind.signed, IntKind.bits]; omega
                  cases PB with
                  | false =>
                    have HG1 := Lib.hid (show (false = true → openG (bl s) (j + 1) = r) ∧ (false = false → r = (0, 0)) from ⟨fun e => absurd e Bool.false_ne_true, HG0.out.2⟩)
                    clear HST HG0 h e6 e7
                    go_wp2_with (first | (go_at_call 77; ((with_reducible refine (HHB.out _).mono ?_); rintro e w1 ⟨rfl, rfl⟩)) | (go_at_call 78; ((with_reducible refine (HPRW.out).mono ?_); rintro e w2 ⟨rfl, hu⟩; have HU2 := Lib.hid (HU.out.trans hu); clear hu)))
                    go_roundg (5 - (j + 1))
                    case measure => rw [HG.out]; have := HJ5.out; omega
                    case rel => exact ⟨j + 1, rfl, by go_num, Lib.hid HJ5.out, HG1, HU2⟩
                  | true =>
                    have hr := HG0.out.1 rfl
                    rw [h] at hr
                    subst hr
                    have HGZ := Lib.hid (show ((k + (quo j).length : Nat) : Int) = (k : Int) + (quoB j).size from by rw [quoB_len]; omega)
                    clear HST HG0 h
                    go_wp2_with (first | (go_at_call 77; ((with_reducible refine (HHB.out _).mono ?_); rintro e w1 ⟨rfl, rfl⟩)) | (go_at_call 78; ((with_reducible refine (HPRW.out).mono ?_); rintro e w2 ⟨rfl, hu⟩; have HU2 := Lib.hid (HU.out.trans hu); clear hu)))
                    go_ret2
                    refine ⟨?_, HU2.out⟩
                    show Ending.returned (Value.tuple #[.int .i64 ((k : Int) + ((quoB j).size : Int)), .int .u8 (j : Int)]) = .returned (.tuple #[.int .i64 ((k + (quo j).length : Nat) : Int), .int .u8 (j : Int)])
                    rw [HGZ.out]
            · have hj5 : j = 5 := by have := HJ.out; omega
              subst hj5
              have hr : r = (0, 0) := by
                have h := HG0.out
                cases PB with
                | true => rw [← h.1 rfl]; exact openG_end _
                | false => exact h.2 rfl
              subst hr
              clear HG0 hj
              go_wp2
              go_ret2
              exact ⟨rfl, HU.out⟩
        have h4' : ((x : Int) == 34) = false := beq_eq_false_iff_ne.2 (by omega)
        have h4n : ((x : Int) != 34) = true := by rw [bne, h4']; rfl
        rw [if_neg (by omega)] at hN
        have HN2 := Lib.hid (show (k + 1) + skipQ (2 - (k + 1)) ((bl s).drop (k + 1)) = N by omega)
        have HK2 := Lib.hid (show k + 1 ≤ 2 ∧ k + 1 ≤ s.size from ⟨h2, h1⟩)
        have HD2 := Lib.hid h2
        clear hN h2 h3 h4 hbx HG0 HPR HHP HT HN HNN HNB
        go_wp2
        go_roundg (2 - (k + 1))
        case measure => rw [HG.out]; have := HD2.out; omega
        case rel => exact ⟨rfl, k + 1, rfl, by go_num, HK2, HN2⟩
      · have h2' : decide ((k : Int) < 2) = false := decide_eq_false (by omega)
        have hkN : k = N := by
          have hN := HN.out
          rw [show 2 - k = 0 from by omega, skip_zero] at hN
          exact hN
        clear hbx h2
        subst hkN
        have q0 : w.cell? ⟨1, 0, none⟩ = some (.string (quoV 0)) := HT.out.qu 0 (by decide)
        have q1 : w.cell? ⟨1, 1, none⟩ = some (.string (quoV 1)) := HT.out.qu 1 (by decide)
        have q2 : w.cell? ⟨1, 2, none⟩ = some (.string (quoV 2)) := HT.out.qu 2 (by decide)
        have q3 : w.cell? ⟨1, 3, none⟩ = some (.string (quoV 3)) := HT.out.qu 3 (by decide)
        have q4 : w.cell? ⟨1, 4, none⟩ = some (.string (quoV 4)) := HT.out.qu 4 (by decide)
        have HU := Lib.hid (Up.refl w)
        have HKS := Lib.hid HK.out
        clear HN HG HK e1
        go_wp2
        clear q0 q1 q2 q3 q4
        go_loopg [30] 5 (fun g iv wr => ∃ j : Nat, g = 5 - j ∧ iv = .int .i64 (j : Nat) ∧ Hid (j ≤ 5) ∧ Hid ((PB = true → openG (bl s) j = r) ∧ (PB = false → r = (0, 0))) ∧ Hid (Up w wr))
        case atStart => exact ⟨0, rfl, rfl, Lib.hid (by omega), HG0, HU⟩
        case round =>
          clear HG0 HU
          obtain ⟨j, hg, rfl, HJ, HG0, HU⟩ := hrel
          have HG := Lib.hid hg
          clear hg
          by_cases hj : j < 5
          · have hix := ixQ j hj
            have e2 : IntKind.i64.wrap ((j : Int) + 1) = (j : Int) + 1 := IntWalk.i64_in _ (by omega)
            have j5 : (j : Int) < 5 := by omega
            by_cases hj0 : j = 0
            · subst hj0
              have HG1 := Lib.hid (show (PB = true → openG (bl s) 1 = r) ∧ (PB = false → r = (0, 0)) from HG0.out)
              have hix0 : ∀ W, (Instr.index 91 (.agg #[.string (quoV 0), .string (quoV 1), .string (quoV 2), .string (quoV 3), .string (quoV 4)]) (.int .i64 0)).run Tryz.prog W = .ok (.string (quoV 0)) W := hix
              clear hix e2 j5 hj HG0
              go_wp2
              go_roundg 4
              case measure => rw [HG.out]; omega
              case rel => exact ⟨1, rfl, by go_num, Lib.hid (by omega), HG1, HU⟩
            · have hqv := quoV_pos hj0
              rw [hqv] at hix
              obtain ⟨B, hB⟩ : ∃ B, (quo j).isPrefixOf ((bl s).drop k) = B := ⟨_, rfl⟩
              have hhp := fun W => HHP.out W j
              rw [hqv, quoB_bl, hB] at hhp
              have HHB := Lib.hid hhp
              have hstep := openG_step (l := bl s) (j := j) (by omega) (by omega)
              rw [HNN.out, hB] at hstep
              have HST := Lib.hid hstep
              have HJ5 := Lib.hid hj
              have jpos : (0 : Int) < (j : Int) := by omega
              have k0 : (k : Int) ≤ s.size := by have := HNB.out; omega
              have HQL := Lib.hid (quoB_le j)
              have HTW := Lib.hid (HT.out.up HU.out)
              have HJ0 := Lib.hid hj0
              clear hB hhp hqv hstep hj hj0
              cases B with
              | false =>
                have HG1 := Lib.hid (show (PB = true → openG (bl s) (j + 1) = r) ∧ (PB = false → r = (0, 0)) from by
                  have h := HST.out
                  rw [if_neg Bool.false_ne_true] at h
                  rw [← h]
                  exact HG0.out)
                clear HST HG0
                go_wp2_with (go_at_call 77; ((with_reducible refine (HHB.out _).mono ?_); rintro e w1 ⟨rfl, rfl⟩))
                go_roundg (5 - (j + 1))
                case measure => rw [HG.out]; have := HJ5.out; omega
                case rel => exact ⟨j + 1, rfl, by go_num, Lib.hid HJ5.out, HG1, HU⟩
              | true =>
                have h := HST.out
                rw [if_pos rfl] at h
                have HPRW := Lib.hid (HPR.out wr HTW.out)
                have e6 : IntKind.i64.wrap ((k : Int) + (quoB j).size) = (k : Int) + (quoB j).size := IntWalk.i64_in _ (by have := HNB.out; have := HQL.out; omega)
                have e7 : IntKind.u8.wrap (j : Int) = (j : Int) := by have := HJ5.out; unfold IntKind.wrap; simp [IntKind.signed, IntKind.bits]; omega
                cases PB with
                | false =>
                  have HG1 := Lib.hid (show (false = true → openG (bl s) (j + 1) = r) ∧ (false = false → r = (0, 0)) from ⟨fun e => absurd e Bool.false_ne_true, HG0.out.2⟩)
                  clear HST HG0 h e6 e7
                  go_wp2_with (first | (go_at_call 77; ((with_reducible refine (HHB.out _).mono ?_); rintro e w1 ⟨rfl, rfl⟩)) | (go_at_call 78; ((with_reducible refine (HPRW.out).mono ?_); rintro e w2 ⟨rfl, hu⟩; have HU2 := Lib.hid (HU.out.trans hu); clear hu)))
                  go_roundg (5 - (j + 1))
                  case measure => rw [HG.out]; have := HJ5.out; omega
                  case rel => exact ⟨j + 1, rfl, by go_num, Lib.hid HJ5.out, HG1, HU2⟩
                | true =>
                  have hr := HG0.out.1 rfl
                  rw [h] at hr
                  subst hr
                  have HGZ := Lib.hid (show ((k + (quo j).length : Nat) : Int) = (k : Int) + (quoB j).size from by rw [quoB_len]; omega)
                  clear HST HG0 h
                  go_wp2_with (first | (go_at_call 77; ((with_reducible refine (HHB.out _).mono ?_); rintro e w1 ⟨rfl, rfl⟩)) | (go_at_call 78; ((with_reducible refine (HPRW.out).mono ?_); rintro e w2 ⟨rfl, hu⟩; have HU2 := Lib.hid (HU.out.trans hu); clear hu)))
                  go_ret2
                  refine ⟨?_, HU2.out⟩
                  show Ending.returned (Value.tuple #[.int .i64 ((k : Int) + ((quoB j).size : Int)), .int .u8 (j : Int)]) = .returned (.tuple #[.int .i64 ((k + (quo j).length : Nat) : Int), .int .u8 (j : Int)])
                  rw [HGZ.out]
          · have hj5 : j = 5 := by have := HJ.out; omega
            subst hj5
            have hr : r = (0, 0) := by
              have h := HG0.out
              cases PB with
              | true => rw [← h.1 rfl]; exact openG_end _
              | false => exact h.2 rfl
            subst hr
            clear HG0 hj
            go_wp2
            go_ret2
            exact ⟨rfl, HU.out⟩
    · have h1' : decide (k < s.size) = false := decide_eq_false h1
      have hkN : k = N := by
        have hN := HN.out
        rw [bl_end (by omega), skip_nil] at hN
        exact hN
      clear h1
      subst hkN
      have q0 : w.cell? ⟨1, 0, none⟩ = some (.string (quoV 0)) := HT.out.qu 0 (by decide)
      have q1 : w.cell? ⟨1, 1, none⟩ = some (.string (quoV 1)) := HT.out.qu 1 (by decide)
      have q2 : w.cell? ⟨1, 2, none⟩ = some (.string (quoV 2)) := HT.out.qu 2 (by decide)
      have q3 : w.cell? ⟨1, 3, none⟩ = some (.string (quoV 3)) := HT.out.qu 3 (by decide)
      have q4 : w.cell? ⟨1, 4, none⟩ = some (.string (quoV 4)) := HT.out.qu 4 (by decide)
      have HU := Lib.hid (Up.refl w)
      have HKS := Lib.hid HK.out
      clear HN HG HK e1
      go_wp2
      clear q0 q1 q2 q3 q4
      go_loopg [30] 5 (fun g iv wr => ∃ j : Nat, g = 5 - j ∧ iv = .int .i64 (j : Nat) ∧ Hid (j ≤ 5) ∧ Hid ((PB = true → openG (bl s) j = r) ∧ (PB = false → r = (0, 0))) ∧ Hid (Up w wr))
      case atStart => exact ⟨0, rfl, rfl, Lib.hid (by omega), HG0, HU⟩
      case round =>
        clear HG0 HU
        obtain ⟨j, hg, rfl, HJ, HG0, HU⟩ := hrel
        have HG := Lib.hid hg
        clear hg
        by_cases hj : j < 5
        · have hix := ixQ j hj
          have e2 : IntKind.i64.wrap ((j : Int) + 1) = (j : Int) + 1 := IntWalk.i64_in _ (by omega)
          have j5 : (j : Int) < 5 := by omega
          by_cases hj0 : j = 0
          · subst hj0
            have HG1 := Lib.hid (show (PB = true → openG (bl s) 1 = r) ∧ (PB = false → r = (0, 0)) from HG0.out)
            have hix0 : ∀ W, (Instr.index 91 (.agg #[.string (quoV 0), .string (quoV 1), .string (quoV 2), .string (quoV 3), .string (quoV 4)]) (.int .i64 0)).run Tryz.prog W = .ok (.string (quoV 0)) W := hix
            clear hix e2 j5 hj HG0
            go_wp2
            go_roundg 4
            case measure => rw [HG.out]; omega
            case rel => exact ⟨1, rfl, by go_num, Lib.hid (by omega), HG1, HU⟩
          · have hqv := quoV_pos hj0
            rw [hqv] at hix
            obtain ⟨B, hB⟩ : ∃ B, (quo j).isPrefixOf ((bl s).drop k) = B := ⟨_, rfl⟩
            have hhp := fun W => HHP.out W j
            rw [hqv, quoB_bl, hB] at hhp
            have HHB := Lib.hid hhp
            have hstep := openG_step (l := bl s) (j := j) (by omega) (by omega)
            rw [HNN.out, hB] at hstep
            have HST := Lib.hid hstep
            have HJ5 := Lib.hid hj
            have jpos : (0 : Int) < (j : Int) := by omega
            have k0 : (k : Int) ≤ s.size := by have := HNB.out; omega
            have HQL := Lib.hid (quoB_le j)
            have HTW := Lib.hid (HT.out.up HU.out)
            have HJ0 := Lib.hid hj0
            clear hB hhp hqv hstep hj hj0
            cases B with
            | false =>
              have HG1 := Lib.hid (show (PB = true → openG (bl s) (j + 1) = r) ∧ (PB = false → r = (0, 0)) from by
                have h := HST.out
                rw [if_neg Bool.false_ne_true] at h
                rw [← h]
                exact HG0.out)
              clear HST HG0
              go_wp2_with (go_at_call 77; ((with_reducible refine (HHB.out _).mono ?_); rintro e w1 ⟨rfl, rfl⟩))
              go_roundg (5 - (j + 1))
              case measure => rw [HG.out]; have := HJ5.out; omega
              case rel => exact ⟨j + 1, rfl, by go_num, Lib.hid HJ5.out, HG1, HU⟩
            | true =>
              have h := HST.out
              rw [if_pos rfl] at h
              have HPRW := Lib.hid (HPR.out wr HTW.out)
              have e6 : IntKind.i64.wrap ((k : Int) + (quoB j).size) = (k : Int) + (quoB j).size := IntWalk.i64_in _ (by have := HNB.out; have := HQL.out; omega)
              have e7 : IntKind.u8.wrap (j : Int) = (j : Int) := by have := HJ5.out; unfold IntKind.wrap; simp [IntKind.signed, IntKind.bits]; omega
              cases PB with
              | false =>
                have HG1 := Lib.hid (show (false = true → openG (bl s) (j + 1) = r) ∧ (false = false → r = (0, 0)) from ⟨fun e => absurd e Bool.false_ne_true, HG0.out.2⟩)
                clear HST HG0 h e6 e7
                go_wp2_with (first | (go_at_call 77; ((with_reducible refine (HHB.out _).mono ?_); rintro e w1 ⟨rfl, rfl⟩)) | (go_at_call 78; ((with_reducible refine (HPRW.out).mono ?_); rintro e w2 ⟨rfl, hu⟩; have HU2 := Lib.hid (HU.out.trans hu); clear hu)))
                go_roundg (5 - (j + 1))
                case measure => rw [HG.out]; have := HJ5.out; omega
                case rel => exact ⟨j + 1, rfl, by go_num, Lib.hid HJ5.out, HG1, HU2⟩
              | true =>
                have hr := HG0.out.1 rfl
                rw [h] at hr
                subst hr
                have HGZ := Lib.hid (show ((k + (quo j).length : Nat) : Int) = (k : Int) + (quoB j).size from by rw [quoB_len]; omega)
                clear HST HG0 h
                go_wp2_with (first | (go_at_call 77; ((with_reducible refine (HHB.out _).mono ?_); rintro e w1 ⟨rfl, rfl⟩)) | (go_at_call 78; ((with_reducible refine (HPRW.out).mono ?_); rintro e w2 ⟨rfl, hu⟩; have HU2 := Lib.hid (HU.out.trans hu); clear hu)))
                go_ret2
                refine ⟨?_, HU2.out⟩
                show Ending.returned (Value.tuple #[.int .i64 ((k : Int) + ((quoB j).size : Int)), .int .u8 (j : Int)]) = .returned (.tuple #[.int .i64 ((k + (quo j).length : Nat) : Int), .int .u8 (j : Int)])
                rw [HGZ.out]
        · have hj5 : j = 5 := by have := HJ.out; omega
          subst hj5
          have hr : r = (0, 0) := by
            have h := HG0.out
            cases PB with
            | true => rw [← h.1 rfl]; exact openG_end _
            | false => exact h.2 rfl
          subst hr
          clear HG0 hj
          go_wp2
          go_ret2
          exact ⟨rfl, HU.out⟩
end Go.Proofs.YtmfcapbllbfjnaaGreatDoor
