/- The program's Blank and End. -/
import Derived.Test.YtmfcapbllbfjnaaGreatDoorVTake
import Derived.Test.YtmfcapbllbfjnaaGreatDoorShelf
namespace Go.Proofs.YtmfcapbllbfjnaaGreatDoor
open Go.RowKit Go.Shelf

/-- A text ends in the byte b. -/
def sfx (s : ByteArray) (b : Nat) : Bool := decide (0 < s.size ∧ bt s (s.size - 1) = b)
theorem bt_list0 {s : ByteArray} {i : Nat} (h : i < s.data.toList.length) : (s.data.toList[i]).toNat = bt s i := by
  have h1 : i < s.size := by rw [Lib.size_eq]; exact h
  rw [bt_list s i h1]
theorem sfx_has (s : ByteArray) (b : UInt8) : Lib.hasSuffix s.data.toList [b] = sfx s b.toNat := by
  rw [← Lib.hasSuffix_of_drop, Bool.eq_iff_iff]
  unfold sfx
  have hl := Lib.size_eq s
  simp only [Bool.and_eq_true, decide_eq_true_eq, List.length_cons, List.length_nil, beq_iff_eq, Nat.zero_add]
  constructor
  · rintro ⟨h1, h2⟩
    have h3 : s.data.toList.length - 1 < s.data.toList.length := by omega
    rw [List.drop_eq_getElem_cons h3] at h2
    injection h2 with h4 h5
    have := bt_list0 h3
    rw [h4] at this
    exact ⟨by omega, by rw [hl]; exact this.symm⟩
  · rintro ⟨h1, h2⟩
    have h3 : s.data.toList.length - 1 < s.data.toList.length := by omega
    refine ⟨by omega, ?_⟩
    rw [List.drop_eq_getElem_cons h3, show s.data.toList.length - 1 + 1 = s.data.toList.length from by omega, List.drop_length]
    congr 1
    apply UInt8.toNat_inj.1
    rw [bt_list0 h3, ← hl]
    exact h2
theorem trim_size (s : ByteArray) (b : UInt8) : (⟨(Lib.trimSuffix s.data.toList [b]).toArray⟩ : ByteArray).size = if sfx s b.toNat then s.size - 1 else s.size := by
  rw [Lib.size_mk]
  unfold Lib.trimSuffix
  rw [sfx_has]
  split
  · rw [List.length_take, ← Lib.size_eq]; show min (s.size - 1) s.size = _; omega
  · rw [← Lib.size_eq]
theorem blF_list (s : ByteArray) : ∀ (f p : Nat), p + f = s.size → blF s f p = ((s.data.toList.drop p).dropWhile fun x => wh x.toNat).isEmpty
  | 0, p, h => by
    rw [List.drop_of_length_le (by rw [← Lib.size_eq]; omega)]
    rfl
  | f + 1, p, h => by
    have h1 : p < s.data.toList.length := by rw [← Lib.size_eq]; omega
    rw [List.drop_eq_getElem_cons h1, List.dropWhile_cons, bt_list0 h1]
    show (if wh (bt s p) = true then blF s f (p + 1) else false) = _
    split
    · exact blF_list s f (p + 1) (by omega)
    · rfl
theorem wh_in (x : UInt8) : ([9, 10, 11, 12, 13, 32] : List UInt8).contains x = wh x.toNat := by
  unfold wh
  rw [Bool.eq_iff_iff]
  simp only [List.contains_cons, List.contains_nil, Bool.or_eq_true, beq_iff_eq, decide_eq_true_eq, ← UInt8.toNat_inj]
  simp
  omega
theorem hasSuffix_any (s : ByteArray) (b : UInt8) (w : World) (hs : (s.size : Int) ≤ 140737488355328) : Calls Tryz.prog 73 #[.string s, .string ⟨#[b]⟩] w fun e w' => e = .returned (.bool (sfx s b.toNat)) ∧ w = w' := by
  have h := Any.stringslite_HasSuffix Tryz.lays207 s ⟨#[b]⟩ w (by omega)
  change Calls Tryz.prog 73 #[.string s, .string ⟨#[b]⟩] w (fun e w' => e = .returned (.bool (Lib.hasSuffix s.data.toList [b])) ∧ w' = w) at h
  rw [sfx_has] at h
  exact h.mono fun e w' hh => ⟨hh.1, hh.2.symm⟩
set_option maxRecDepth 100000 in
set_option maxHeartbeats 2000000 in
theorem cutSuffix_any (s : ByteArray) (b : UInt8) (w : World) (hs : (s.size : Int) ≤ 140737488355328) : Calls Tryz.prog 61 #[.string s, .string ⟨#[b]⟩] w fun e w' => e = .returned (.tuple #[.string (if sfx s b.toNat then s.extract 0 (s.size - 1) else s), .bool (sfx s b.toNat)]) ∧ w = w' := by
  have HS := Lib.hid (fun W => hasSuffix_any s b W hs)
  have hsf : sfx s b.toNat = true → 0 < s.size := fun h => by unfold sfx at h; exact (of_decide_eq_true h).1
  obtain ⟨X, hX⟩ : ∃ X, sfx s b.toNat = X := ⟨_, rfl⟩
  rw [hX] at HS hsf ⊢
  clear hX
  cases X with
  | false =>
    clear hsf hs
    go_enter Tryz.func61, Tryz.ntmps61
    go_wp2_with (go_at_call 73; ((with_reducible refine (HS.out _).mono ?_); rintro e1 w1 ⟨rfl, rfl⟩))
    go_ret2
    exact ⟨rfl, rfl⟩
  | true =>
    have h0 := hsf rfl
    obtain ⟨n, hn⟩ : ∃ n, s.size = n + 1 := ⟨s.size - 1, by omega⟩
    have hb : (⟨#[b]⟩ : ByteArray).size = 1 := rfl
    have e1 : IntKind.i64.wrap ((s.size : Int) - 1) = (n : Nat) := (IntWalk.i64_in _ (by omega)).trans (by omega)
    have p0 : (0 : Int) ≤ n := by omega
    have p1 : (n : Int) ≤ s.size := by omega
    have p2 : n ≤ s.size := by omega
    rw [show s.size - 1 = n from by omega]
    clear hsf hs h0 hn
    go_enter Tryz.func61, Tryz.ntmps61
    go_wp2_with (go_at_call 73; ((with_reducible refine (HS.out _).mono ?_); rintro e1 w1 ⟨rfl, rfl⟩))
    go_ret2
    exact ⟨rfl, rfl⟩
set_option maxRecDepth 100000 in
set_option maxHeartbeats 2000000 in
theorem sCut_any (s : ByteArray) (b : UInt8) (w : World) (hs : (s.size : Int) ≤ 140737488355328) : Calls Tryz.prog 40 #[.string s, .string ⟨#[b]⟩] w fun e w' => e = .returned (.tuple #[.string (if sfx s b.toNat then s.extract 0 (s.size - 1) else s), .bool (sfx s b.toNat)]) ∧ w = w' := by
  have HS := Lib.hid (fun W => cutSuffix_any s b W hs)
  generalize (if sfx s b.toNat then s.extract 0 (s.size - 1) else s) = r at HS ⊢
  generalize sfx s b.toNat = X at HS ⊢
  clear hs
  go_enter Tryz.func40, Tryz.ntmps40
  go_wp2_with (go_at_call 61; ((with_reducible refine (HS.out _).mono ?_); rintro e1 w1 ⟨rfl, rfl⟩))
  go_ret2
  exact ⟨rfl, rfl⟩
theorem sTrim_any (s : ByteArray) (b : UInt8) (w : World) (hs : (s.size : Int) ≤ 140737488355328) : Calls Tryz.prog 41 #[.string s, .string ⟨#[b]⟩] w fun e w' => ∃ r : ByteArray, e = .returned (.string r) ∧ r.size = (if sfx s b.toNat then s.size - 1 else s.size) ∧ w = w' := by
  have h := Any.strings_TrimSuffix Tryz.lays102 s ⟨#[b]⟩ w (by omega)
  change Calls Tryz.prog 41 #[.string s, .string ⟨#[b]⟩] w (fun e w' => e = .returned (.string ⟨(Lib.trimSuffix s.data.toList [b]).toArray⟩) ∧ w' = w) at h
  exact h.mono fun e w' hh => ⟨_, hh.1, trim_size s b, hh.2.symm⟩
set_option maxRecDepth 100000 in
set_option maxHeartbeats 2000000 in
theorem pEnd_any (w : World) (s : ByteArray) (hs : (s.size : Int) ≤ 140737488355328) : Calls Tryz.prog 22 #[.string s] w fun e w' => e = .returned (.int .i64 (endE s : Nat)) ∧ Up w w' := by
  have HC := Lib.hid (fun W => sCut_any s 10 W hs)
  have hE : endE s = if sfx s 10 then (if sfx (s.extract 0 (s.size - 1)) 13 then s.size - 2 else s.size - 1) else s.size := by
    unfold endE sfx
    have hz : (s.extract 0 (s.size - 1)).size = s.size - 1 := by rw [ByteArray.size_extract]; omega
    rw [hz]
    by_cases h0 : 0 < s.size ∧ bt s (s.size - 1) = 10
    · rw [if_neg (by omega), decide_eq_true h0, if_pos rfl]
      by_cases h1 : 1 < s.size
      · have hb : bt (s.extract 0 (s.size - 1)) (s.size - 1 - 1) = bt s (s.size - 2) := by
          rw [bt_ext_in (by omega) (by omega)]
          congr 1
          omega
        rw [hb]
        by_cases h2 : bt s (s.size - 2) = 13
        · rw [if_pos ⟨h1, h2⟩, decide_eq_true ⟨by omega, h2⟩, if_pos rfl]
        · rw [if_neg (fun k => h2 k.2), decide_eq_false (fun k => h2 k.2)]
          rfl
      · rw [if_neg (fun k => h1 k.1), decide_eq_false (fun k => by omega)]
        rfl
    · rw [if_pos (by omega), decide_eq_false h0]
      rfl
  have hU := Up.refl w
  rw [hE]
  clear hE
  have hsf : sfx s (10 : UInt8).toNat = sfx s 10 := rfl
  rw [hsf] at HC
  have hpos : sfx s 10 = true → 0 < s.size := fun h => by unfold sfx at h; exact (of_decide_eq_true h).1
  obtain ⟨X, hX⟩ : ∃ X, sfx s 10 = X := ⟨_, rfl⟩
  rw [hX] at HC hpos ⊢
  clear hX hsf
  cases X with
  | false =>
    clear hpos hs
    go_enter Tryz.func22, Tryz.ntmps22
    go_wp2_with (go_at_call 40; ((with_reducible refine (HC.out _).mono ?_); rintro e1 w1 ⟨rfl, rfl⟩))
    go_ret
    exact ⟨rfl, hU⟩
  | true =>
    have h0 := hpos rfl
    obtain ⟨t, ht⟩ : ∃ t, s.extract 0 (s.size - 1) = t := ⟨_, rfl⟩
    have htz : t.size = s.size - 1 := by rw [← ht, ByteArray.size_extract]; omega
    rw [if_pos rfl, ht] at HC
    rw [if_pos rfl, ht]
    have HT := Lib.hid (fun W => sTrim_any t 13 W (by omega))
    have hr : (if sfx t (13 : UInt8).toNat then t.size - 1 else t.size) = if sfx t 13 then s.size - 2 else s.size - 1 := by
      show (if sfx t 13 then t.size - 1 else t.size) = _
      split <;> omega
    rw [hr] at HT
    generalize (if sfx t 13 then s.size - 2 else s.size - 1) = n at HT ⊢
    clear hr htz h0 hpos hs ht
    go_enter Tryz.func22, Tryz.ntmps22
    go_wp2_with (first
      | (go_at_call 40; ((with_reducible refine (HC.out _).mono ?_); rintro e1 w1 ⟨rfl, rfl⟩))
      | (go_at_call 41; ((with_reducible refine (HT.out _).mono ?_); rintro e1 w1 ⟨r, rfl, hr, rfl⟩; have HR := Lib.hid hr; clear hr)))
    go_ret
    exact ⟨ret_int (by rw [HR.out]), hU⟩
end Go.Proofs.YtmfcapbllbfjnaaGreatDoor
