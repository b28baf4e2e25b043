/- The pieces of a text: put together they are the text, and each has what a leaf may have. -/
import Derived.Test.YtcbmigkdmmmahaaDoorStackMath
import Derived.Test.YtcbmigkdmmmahaaDoorPieces
namespace Go.Proofs.YtcbmigkdmmmahaaDoor

theorem extract_join {s : ByteArray} {a c : Nat} (h1 : a ≤ c) (h2 : c ≤ s.size) : s.extract 0 a ++ s.extract a c = s.extract 0 c := by
  have z1 : (s.extract 0 a).size = a := by rw [ByteArray.size_extract]; omega
  have z2 : (s.extract a c).size = c - a := by rw [ByteArray.size_extract]; omega
  refine ext_bt (by rw [ByteArray.size_append, z1, z2, ByteArray.size_extract]; omega) fun i hi => ?_
  rw [ByteArray.size_append, z1, z2] at hi
  have e0 := bt_extract (s := s) (a := 0) (n := c) (i := i) (by omega) (by omega)
  rw [Nat.zero_add, Nat.zero_add] at e0
  rw [e0]
  by_cases h : i < a
  · rw [bt_append_left (by omega)]
    have e1 := bt_extract (s := s) (a := 0) (n := a) (i := i) (by omega) h
    rw [Nat.zero_add, Nat.zero_add] at e1
    exact e1
  · have e2 := bt_append_right (a := s.extract 0 a) (b := s.extract a c) (i := i - a) (by omega)
    rw [z1, show a + (i - a) = i from by omega] at e2
    rw [e2]
    have e3 := bt_extract (s := s) (a := a) (n := c - a) (i := i - a) (by omega) (by omega)
    rw [show a + (c - a) = c from by omega, show a + (i - a) = i from by omega] at e3
    exact e3
theorem pcn_bounds {s : ByteArray} (h : 1 ≤ s.size) : 1 ≤ pcn s ∧ 512 * (pcn s - 1) < s.size ∧ s.size ≤ 512 * pcn s := by unfold pcn; omega
theorem pc_le {s : ByteArray} (h : 1 ≤ s.size) (k : Nat) (hk : k ≤ pcn s) : k * s.size / pcn s ≤ s.size := by
  have := pcn_bounds h
  exact Nat.div_le_of_le_mul (Nat.mul_le_mul_right _ hk)
theorem pc_mono (s : ByteArray) (k : Nat) : k * s.size / pcn s ≤ (k + 1) * s.size / pcn s := Nat.div_le_div_right (Nat.mul_le_mul_right _ (by omega))
theorem cat_upto {s : ByteArray} (h : 1 ≤ s.size) : ∀ k, k ≤ pcn s → cat ((List.range k).map (pc s)) = s.extract 0 (k * s.size / pcn s) := by
  intro k
  induction k with
  | zero => intro _; simp [cat]; rfl
  | succ k ih =>
    intro hk
    rw [List.range_succ, List.map_append, cat_append, ih (by omega)]
    show _ ++ cat [pc s k] = _
    rw [cat_one]
    exact extract_join (pc_mono s k) (pc_le h _ hk)
theorem cat_pcs {s : ByteArray} (h : 1 ≤ s.size) : cat (pcs s) = s := by
  have hb := pcn_bounds h
  unfold pcs
  rw [cat_upto h _ (Nat.le_refl _), Nat.mul_div_cancel_left _ (by omega)]
  simp
theorem pcs_length (s : ByteArray) : (pcs s).length = pcn s := by unfold pcs; simp
theorem piece_len (n m k : Nat) (h0 : 2 ≤ n) (h1 : 512 * (n - 1) < m) (h2 : m ≤ 512 * n) : k * m / n + 256 ≤ (k + 1) * m / n ∧ (k + 1) * m / n ≤ k * m / n + 512 := by
  have hn0 : 0 < n := by omega
  have a1 := Nat.div_mul_le_self (k * m) n
  have a2 := Nat.lt_div_mul_add (a := k * m) hn0
  have c1 := Nat.div_mul_le_self (k * m + m) n
  have c2 := Nat.lt_div_mul_add (a := k * m + m) hn0
  rw [show (k + 1) * m = k * m + m from Nat.succ_mul k m]
  obtain ⟨q, hq⟩ : ∃ q, k * m = q := ⟨_, rfl⟩
  rw [hq] at a1 a2 c1 c2 ⊢
  obtain ⟨a, ha⟩ : ∃ a, q / n = a := ⟨_, rfl⟩
  obtain ⟨c, hc⟩ : ∃ c, (q + m) / n = c := ⟨_, rfl⟩
  rw [ha] at a1 a2 ⊢
  rw [hc] at c1 c2 ⊢
  constructor
  · by_cases hlt : a + 256 ≤ c
    · exact hlt
    · exfalso
      have := Nat.mul_le_mul_right n (show c + 1 ≤ a + 256 from by omega)
      rw [Nat.add_mul, Nat.add_mul] at this
      omega
  · by_cases hlt : c ≤ a + 512
    · exact hlt
    · exfalso
      have := Nat.mul_le_mul_right n (show a + 512 + 1 ≤ c from by omega)
      rw [Nat.add_mul, Nat.add_mul] at this
      omega
theorem pcs_piece {s : ByteArray} (h : 1 ≤ s.size) (h2 : 2 ≤ pcn s) : ∀ x ∈ pcs s, Piece x := by
  intro x hx
  unfold pcs at hx
  obtain ⟨k, hk, rfl⟩ := List.mem_map.1 hx
  have hk' : k < pcn s := List.mem_range.1 hk
  have hb := pcn_bounds h
  have hle := pc_le h (k + 1) (by omega)
  have hl := piece_len (pcn s) s.size k h2 hb.2.1 hb.2.2
  unfold Piece pc
  rw [ByteArray.size_extract]
  omega
theorem pcs_one {s : ByteArray} (h1 : pcn s = 1) : pcs s = [s] := by
  unfold pcs
  rw [h1]
  show [pc s 0] = [s]
  unfold pc
  rw [h1]
  simp
theorem pcs_all {s : ByteArray} (h : 1 ≤ s.size) : ∀ x ∈ pcs s, 1 ≤ x.size ∧ x.size ≤ 512 := by
  intro x hx
  by_cases h1 : pcn s = 1
  · rw [pcs_one h1] at hx
    have hb := pcn_bounds h
    obtain rfl : x = s := by simpa using hx
    omega
  · have hb := pcn_bounds h
    have := pcs_piece h (by omega) x hx
    unfold Piece at this
    omega

/-- What grow makes of a text. -/
def GrowSpec (s : ByteArray) (t : T) : Prop := Ok t ∧ t.text = s ∧ (256 ≤ s.size → Big t) ∧ (s.size ≤ 512 → t.dp = 1) ∧ (s.size ≤ 1024 → t.dp ≤ 2)
theorem grow_spec {s : ByteArray} (h : 1 ≤ s.size) {t : T} (ht : StkSpec (pcs s) t) : GrowSpec s t := by
  obtain ⟨e1, e2, e3, e4⟩ := ht
  have hb := pcn_bounds h
  rw [cat_pcs h] at e1
  rw [pcs_length] at e2
  by_cases h1 : pcn s = 1
  · have e5 := e4 s (pcs_one h1)
    subst e5
    refine ⟨⟨h, by omega⟩, rfl, fun h2 => ⟨h2, by omega⟩, fun _ => rfl, fun _ => by show 1 ≤ 2; omega⟩
  · have hbig := e3 (pcs_piece h (by omega))
    refine ⟨hbig.ok, e1, fun _ => hbig, fun h2 => ?_, fun h2 => ?_⟩
    · exfalso; unfold pcn at *; omega
    · have : pcn s = 2 := by unfold pcn at *; omega
      rw [e2, this, dn_step 2 (by omega)]
      simp [dn_one]
end Go.Proofs.YtcbmigkdmmmahaaDoor
