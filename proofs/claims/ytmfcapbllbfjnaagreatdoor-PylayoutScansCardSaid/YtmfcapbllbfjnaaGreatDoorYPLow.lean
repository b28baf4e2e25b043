/- Small letters of a text of two bytes at most: whether they are a prefix. -/
import Derived.Test.YtmfcapbllbfjnaaGreatDoorYPMath
import Derived.Lib.MapU
import Derived.Lib.TrimAscii
import Derived.Shelf.Strings.CaseAny
namespace Go.Proofs.YtmfcapbllbfjnaaGreatDoor

/-! Small letters. -/
theorem lower_two : (List.range 1920).all (fun k => !(pres.contains ((Lib.encodeRune (Lib.toLowerU ((k + 128 : Nat) : Int))).map (·.toNat)))) = true := by decide +kernel
theorem lower_bad : (Lib.encodeRune (Lib.toLowerU 65533)) = [239, 191, 189] := by decide +kernel
theorem lowN_of (b : UInt8) (h : b.toNat < 128) : (Lib.lowerB b).toNat = lowN b.toNat := by
  have h2 : ∀ b : Fin 128, (Lib.lowerB (UInt8.ofNat b.val)).toNat = lowN b.val := by decide
  have := h2 ⟨b.toNat, h⟩
  simpa using this
/-- What small letters make of a byte that is no rune. -/
theorem mapGo_one (f : Int → Int) (b : UInt8) (n : Nat) (r : List UInt8) (h : (Lib.decodeL (b :: r)).2 = 1) (h0 : 0 ≤ f (Lib.decodeL (b :: r)).1) : Lib.mapGoD f (n + 1) (b :: r) = Lib.encodeRune (f (Lib.decodeL (b :: r)).1) ++ Lib.mapGoD f n r := by
  rw [Lib.mapGoD, if_neg (by simp), if_pos h0, h]
  rfl
theorem dec_low (b : UInt8) (r : List UInt8) (h : b.toNat < 128) : Lib.decodeL (b :: r) = (b.toNat, 1) := by
  have e : ((⟨(b :: r).toArray⟩ : ByteArray).get! (0 + 0)).toNat = b.toNat := rfl
  unfold Lib.decodeL Utf8.decode
  simp only [e]
  rw [if_pos h]
theorem dec_one (b : UInt8) (h : 128 ≤ b.toNat) : Lib.decodeL [b] = (65533, 1) := by
  have e : ((⟨[b].toArray⟩ : ByteArray).get! (0 + 0)).toNat = b.toNat := rfl
  have es : (⟨[b].toArray⟩ : ByteArray).size = 1 := rfl
  unfold Lib.decodeL Utf8.decode
  simp only [e, es]
  rw [if_neg (by omega)]
  simp [Utf8.runeError]
theorem dec_two (b c : UInt8) (h : 128 ≤ b.toNat) : Lib.decodeL [b, c] = (65533, 1) ∨ ∃ k : Nat, k < 1920 ∧ Lib.decodeL [b, c] = (k + 128, 2) := by
  have e : ((⟨[b, c].toArray⟩ : ByteArray).get! (0 + 0)).toNat = b.toNat := rfl
  have e1 : ((⟨[b, c].toArray⟩ : ByteArray).get! (0 + 1)).toNat = c.toNat := rfl
  have es : (⟨[b, c].toArray⟩ : ByteArray).size = 2 := rfl
  unfold Lib.decodeL Utf8.decode
  simp only [e, e1, es]
  rw [if_neg (by omega)]
  have hb := b.toNat_lt
  have hc := c.toNat_lt
  by_cases h1 : (b.toNat / 32 == 6 && (decide (0 + 1 < 2) && c.toNat / 64 == 2)) = true
  · rw [if_pos h1]
    simp only [Bool.and_eq_true, beq_iff_eq] at h1
    by_cases h2 : (b.toNat % 32) * 64 + c.toNat % 64 ≥ 128
    · rw [if_pos h2]
      exact .inr ⟨(b.toNat % 32) * 64 + c.toNat % 64 - 128, by omega, by rw [Nat.sub_add_cancel h2]⟩
    · rw [if_neg h2]
      exact .inl rfl
  · rw [if_neg h1]
    left
    simp [Utf8.runeError]
theorem lower_high {l : List UInt8} (hl : l.length ≤ 2) (hh : ∃ b ∈ l, 128 ≤ b.toNat) : (Lib.toLowerD l).map (·.toNat) ∉ pres := by
  have hbad : (0 : Int) ≤ Lib.toLowerU (65533 : Nat) := by decide +kernel
  have hlow : ∀ b : UInt8, b.toNat < 128 → (0 : Int) ≤ Lib.toLowerU (b.toNat : Int) := fun b h => by
    unfold Lib.toLowerU
    rw [if_pos (by omega)]
    split <;> omega
  have hlong : ∀ {m : List UInt8}, 3 ≤ m.length → m.map (·.toNat) ∉ pres := fun h k => by
    have := pres_two _ k
    rw [List.length_map] at this
    omega
  have hlb : (Lib.encodeRune (Lib.toLowerU ((65533 : Nat) : Int))).length = 3 := by
    rw [show ((65533 : Nat) : Int) = 65533 from rfl, lower_bad]; rfl
  match l, hl, hh with
  | [], _, hh => obtain ⟨b, hb, -⟩ := hh; cases hb
  | [b], _, hh =>
    obtain ⟨b', hb, h8⟩ := hh
    obtain rfl : b' = b := by simpa using hb
    have hd := dec_one b' h8
    apply hlong
    show 3 ≤ (Lib.mapGoD Lib.toLowerU 1 [b']).length
    rw [mapGo_one _ _ _ _ (by rw [hd]) (by rw [hd]; exact hbad), hd, List.length_append]
    dsimp only
    omega
  | [b, c], _, hh =>
    by_cases h8 : 128 ≤ b.toNat
    · rcases dec_two b c h8 with hd | ⟨k, hk, hd⟩
      · apply hlong
        show 3 ≤ (Lib.mapGoD Lib.toLowerU 2 [b, c]).length
        rw [mapGo_one _ _ _ _ (by rw [hd]) (by rw [hd]; exact hbad), hd, List.length_append]
        dsimp only
        omega
      · have hk2 := List.all_eq_true.1 lower_two k (List.mem_range.2 hk)
        have e : Lib.toLowerD [b, c] = Lib.encodeRune (Lib.toLowerU ((k + 128 : Nat) : Int)) := by
          show Lib.mapGoD Lib.toLowerU 2 [b, c] = _
          rw [Lib.mapGoD, if_neg (by simp), hd]
          dsimp only
          rw [if_pos (Lib.toLowerU_range _ (by omega)).1]
          show _ ++ Lib.mapGoD Lib.toLowerU 1 [] = _
          rw [Lib.mapGoD, if_pos rfl, List.append_nil]
        rw [e]
        intro hm
        rw [List.contains_iff_mem.2 hm] at hk2
        cases hk2
    · have h8c : 128 ≤ c.toNat := by
        obtain ⟨b', hb, h9⟩ := hh
        rcases List.mem_cons.1 hb with rfl | hb
        · exact absurd h9 h8
        · obtain rfl : b' = c := by simpa using hb
          exact h9
      have hd := dec_low b [c] (by omega)
      have hd2 := dec_one c h8c
      apply hlong
      show 3 ≤ (Lib.mapGoD Lib.toLowerU 2 [b, c]).length
      rw [mapGo_one _ _ _ _ (by rw [hd]) (by rw [hd]; exact hlow b (by omega)), hd, List.length_append]
      rw [mapGo_one _ _ _ _ (by rw [hd2]) (by rw [hd2]; exact hbad), hd2, List.length_append]
      dsimp only
      omega
/-- Small letters of a text. -/
def lowT (s : ByteArray) : ByteArray := ⟨(Lib.toLowerD s.data.toList).toArray⟩
theorem lowT_pres (s : ByteArray) (h : s.size ≤ 2) : bl (lowT s) ∈ pres ↔ (bl s).map lowN ∈ pres := by
  have hl : s.data.toList.length ≤ 2 := by rw [← Lib.size_eq]; exact h
  by_cases ha : ∀ b ∈ s.data.toList, b.toNat < 128
  · have e : bl (lowT s) = (bl s).map lowN := by
      unfold lowT
      rw [Lib.toLowerD_ascii _ ha]
      unfold bl Lib.toLowerA
      simp only [List.map_map]
      apply List.map_congr_left
      intro b hb
      exact lowN_of b (ha b hb)
    rw [e]
  · have hh : ∃ b ∈ s.data.toList, 128 ≤ b.toNat := by
      apply Classical.byContradiction
      intro hn
      exact ha fun b hb => Classical.byContradiction fun k => hn ⟨b, hb, by omega⟩
    refine ⟨fun k => absurd k ?_, fun k => ?_⟩
    · have := lower_high hl hh
      unfold lowT bl
      exact this
    · obtain ⟨b, hb, h8⟩ := hh
      have hm : lowN b.toNat ∈ (bl s).map lowN := List.mem_map.2 ⟨b.toNat, List.mem_map.2 ⟨b, hb, rfl⟩, rfl⟩
      have := (pres_low _ k _ hm).1
      have := lowN_high h8
      omega

end Go.Proofs.YtmfcapbllbfjnaaGreatDoor
