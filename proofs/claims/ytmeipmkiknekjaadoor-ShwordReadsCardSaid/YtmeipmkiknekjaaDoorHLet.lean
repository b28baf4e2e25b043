/- The program's letters: the letters of a word, gone over by goto between three labels. -/
import Derived.Test.YtmeipmkiknekjaaDoorHScope
namespace Go.Proofs.YtmeipmkiknekjaaDoor
open Go.RowKit

theorem list69 : ∀ us : List Value, us.length = 69 → ∃ u3 u4 u5 u6 u7 u8 u9 u10 u11 u12 u13 u14 u15 u16 u17 u18 u19 u20 u21 u22 u23 u24 u25 u26 u27 u28 u29 u30 u31 u32 u33 u34 u35 u36 u37 u38 u39 u40 u41 u42 u43 u44 u45 u46 u47 u48 u49 u50 u51 u52 u53 u54 u55 u56 u57 u58 u59 u60 u61 u62 u63 u64 u65 u66 u67 u68 u69 u70 u71 : Value, us = u3 :: u4 :: u5 :: u6 :: u7 :: u8 :: u9 :: u10 :: u11 :: u12 :: u13 :: u14 :: u15 :: u16 :: u17 :: u18 :: u19 :: u20 :: u21 :: u22 :: u23 :: u24 :: u25 :: u26 :: u27 :: u28 :: u29 :: u30 :: u31 :: u32 :: u33 :: u34 :: u35 :: u36 :: u37 :: u38 :: u39 :: u40 :: u41 :: u42 :: u43 :: u44 :: u45 :: u46 :: u47 :: u48 :: u49 :: u50 :: u51 :: u52 :: u53 :: u54 :: u55 :: u56 :: u57 :: u58 :: u59 :: u60 :: u61 :: u62 :: u63 :: u64 :: u65 :: u66 :: u67 :: u68 :: u69 :: u70 :: u71 :: [] := by
  intro us h
  obtain ⟨u3, us, rfl⟩ : ∃ x l, us = x :: l := by cases us with | nil => simp at h | cons x l => exact ⟨x, l, rfl⟩
  replace h := Nat.succ.inj h
  obtain ⟨u4, us, rfl⟩ : ∃ x l, us = x :: l := by cases us with | nil => simp at h | cons x l => exact ⟨x, l, rfl⟩
  replace h := Nat.succ.inj h
  obtain ⟨u5, us, rfl⟩ : ∃ x l, us = x :: l := by cases us with | nil => simp at h | cons x l => exact ⟨x, l, rfl⟩
  replace h := Nat.succ.inj h
  obtain ⟨u6, us, rfl⟩ : ∃ x l, us = x :: l := by cases us with | nil => simp at h | cons x l => exact ⟨x, l, rfl⟩
  replace h := Nat.succ.inj h
  obtain ⟨u7, us, rfl⟩ : ∃ x l, us = x :: l := by cases us with | nil => simp at h | cons x l => exact ⟨x, l, rfl⟩
  replace h := Nat.succ.inj h
  obtain ⟨u8, us, rfl⟩ : ∃ x l, us = x :: l := by cases us with | nil => simp at h | cons x l => exact ⟨x, l, rfl⟩
  replace h := Nat.succ.inj h
  obtain ⟨u9, us, rfl⟩ : ∃ x l, us = x :: l := by cases us with | nil => simp at h | cons x l => exact ⟨x, l, rfl⟩
  replace h := Nat.succ.inj h
  obtain ⟨u10, us, rfl⟩ : ∃ x l, us = x :: l := by cases us with | nil => simp at h | cons x l => exact ⟨x, l, rfl⟩
  replace h := Nat.succ.inj h
  obtain ⟨u11, us, rfl⟩ : ∃ x l, us = x :: l := by cases us with | nil => simp at h | cons x l => exact ⟨x, l, rfl⟩
  replace h := Nat.succ.inj h
  obtain ⟨u12, us, rfl⟩ : ∃ x l, us = x :: l := by cases us with | nil => simp at h | cons x l => exact ⟨x, l, rfl⟩
  replace h := Nat.succ.inj h
  obtain ⟨u13, us, rfl⟩ : ∃ x l, us = x :: l := by cases us with | nil => simp at h | cons x l => exact ⟨x, l, rfl⟩
  replace h := Nat.succ.inj h
  obtain ⟨u14, us, rfl⟩ : ∃ x l, us = x :: l := by cases us with | nil => simp at h | cons x l => exact ⟨x, l, rfl⟩
  replace h := Nat.succ.inj h
  obtain ⟨u15, us, rfl⟩ : ∃ x l, us = x :: l := by cases us with | nil => simp at h | cons x l => exact ⟨x, l, rfl⟩
  replace h := Nat.succ.inj h
  obtain ⟨u16, us, rfl⟩ : ∃ x l, us = x :: l := by cases us with | nil => simp at h | cons x l => exact ⟨x, l, rfl⟩
  replace h := Nat.succ.inj h
  obtain ⟨u17, us, rfl⟩ : ∃ x l, us = x :: l := by cases us with | nil => simp at h | cons x l => exact ⟨x, l, rfl⟩
  replace h := Nat.succ.inj h
  obtain ⟨u18, us, rfl⟩ : ∃ x l, us = x :: l := by cases us with | nil => simp at h | cons x l => exact ⟨x, l, rfl⟩
  replace h := Nat.succ.inj h
  obtain ⟨u19, us, rfl⟩ : ∃ x l, us = x :: l := by cases us with | nil => simp at h | cons x l => exact ⟨x, l, rfl⟩
  replace h := Nat.succ.inj h
  obtain ⟨u20, us, rfl⟩ : ∃ x l, us = x :: l := by cases us with | nil => simp at h | cons x l => exact ⟨x, l, rfl⟩
  replace h := Nat.succ.inj h
  obtain ⟨u21, us, rfl⟩ : ∃ x l, us = x :: l := by cases us with | nil => simp at h | cons x l => exact ⟨x, l, rfl⟩
  replace h := Nat.succ.inj h
  obtain ⟨u22, us, rfl⟩ : ∃ x l, us = x :: l := by cases us with | nil => simp at h | cons x l => exact ⟨x, l, rfl⟩
  replace h := Nat.succ.inj h
  obtain ⟨u23, us, rfl⟩ : ∃ x l, us = x :: l := by cases us with | nil => simp at h | cons x l => exact ⟨x, l, rfl⟩
  replace h := Nat.succ.inj h
  obtain ⟨u24, us, rfl⟩ : ∃ x l, us = x :: l := by cases us with | nil => simp at h | cons x l => exact ⟨x, l, rfl⟩
  replace h := Nat.succ.inj h
  obtain ⟨u25, us, rfl⟩ : ∃ x l, us = x :: l := by cases us with | nil => simp at h | cons x l => exact ⟨x, l, rfl⟩
  replace h := Nat.succ.inj h
  obtain ⟨u26, us, rfl⟩ : ∃ x l, us = x :: l := by cases us with | nil => simp at h | cons x l => exact ⟨x, l, rfl⟩
  replace h := Nat.succ.inj h
  obtain ⟨u27, us, rfl⟩ : ∃ x l, us = x :: l := by cases us with | nil => simp at h | cons x l => exact ⟨x, l, rfl⟩
  replace h := Nat.succ.inj h
  obtain ⟨u28, us, rfl⟩ : ∃ x l, us = x :: l := by cases us with | nil => simp at h | cons x l => exact ⟨x, l, rfl⟩
  replace h := Nat.succ.inj h
  obtain ⟨u29, us, rfl⟩ : ∃ x l, us = x :: l := by cases us with | nil => simp at h | cons x l => exact ⟨x, l, rfl⟩
  replace h := Nat.succ.inj h
  obtain ⟨u30, us, rfl⟩ : ∃ x l, us = x :: l := by cases us with | nil => simp at h | cons x l => exact ⟨x, l, rfl⟩
  replace h := Nat.succ.inj h
  obtain ⟨u31, us, rfl⟩ : ∃ x l, us = x :: l := by cases us with | nil => simp at h | cons x l => exact ⟨x, l, rfl⟩
  replace h := Nat.succ.inj h
  obtain ⟨u32, us, rfl⟩ : ∃ x l, us = x :: l := by cases us with | nil => simp at h | cons x l => exact ⟨x, l, rfl⟩
  replace h := Nat.succ.inj h
  obtain ⟨u33, us, rfl⟩ : ∃ x l, us = x :: l := by cases us with | nil => simp at h | cons x l => exact ⟨x, l, rfl⟩
  replace h := Nat.succ.inj h
  obtain ⟨u34, us, rfl⟩ : ∃ x l, us = x :: l := by cases us with | nil => simp at h | cons x l => exact ⟨x, l, rfl⟩
  replace h := Nat.succ.inj h
  obtain ⟨u35, us, rfl⟩ : ∃ x l, us = x :: l := by cases us with | nil => simp at h | cons x l => exact ⟨x, l, rfl⟩
  replace h := Nat.succ.inj h
  obtain ⟨u36, us, rfl⟩ : ∃ x l, us = x :: l := by cases us with | nil => simp at h | cons x l => exact ⟨x, l, rfl⟩
  replace h := Nat.succ.inj h
  obtain ⟨u37, us, rfl⟩ : ∃ x l, us = x :: l := by cases us with | nil => simp at h | cons x l => exact ⟨x, l, rfl⟩
  replace h := Nat.succ.inj h
  obtain ⟨u38, us, rfl⟩ : ∃ x l, us = x :: l := by cases us with | nil => simp at h | cons x l => exact ⟨x, l, rfl⟩
  replace h := Nat.succ.inj h
  obtain ⟨u39, us, rfl⟩ : ∃ x l, us = x :: l := by cases us with | nil => simp at h | cons x l => exact ⟨x, l, rfl⟩
  replace h := Nat.succ.inj h
  obtain ⟨u40, us, rfl⟩ : ∃ x l, us = x :: l := by cases us with | nil => simp at h | cons x l => exact ⟨x, l, rfl⟩
  replace h := Nat.succ.inj h
  obtain ⟨u41, us, rfl⟩ : ∃ x l, us = x :: l := by cases us with | nil => simp at h | cons x l => exact ⟨x, l, rfl⟩
  replace h := Nat.succ.inj h
  obtain ⟨u42, us, rfl⟩ : ∃ x l, us = x :: l := by cases us with | nil => simp at h | cons x l => exact ⟨x, l, rfl⟩
  replace h := Nat.succ.inj h
  obtain ⟨u43, us, rfl⟩ : ∃ x l, us = x :: l := by cases us with | nil => simp at h | cons x l => exact ⟨x, l, rfl⟩
  replace h := Nat.succ.inj h
  obtain ⟨u44, us, rfl⟩ : ∃ x l, us = x :: l := by cases us with | nil => simp at h | cons x l => exact ⟨x, l, rfl⟩
  replace h := Nat.succ.inj h
  obtain ⟨u45, us, rfl⟩ : ∃ x l, us = x :: l := by cases us with | nil => simp at h | cons x l => exact ⟨x, l, rfl⟩
  replace h := Nat.succ.inj h
  obtain ⟨u46, us, rfl⟩ : ∃ x l, us = x :: l := by cases us with | nil => simp at h | cons x l => exact ⟨x, l, rfl⟩
  replace h := Nat.succ.inj h
  obtain ⟨u47, us, rfl⟩ : ∃ x l, us = x :: l := by cases us with | nil => simp at h | cons x l => exact ⟨x, l, rfl⟩
  replace h := Nat.succ.inj h
  obtain ⟨u48, us, rfl⟩ : ∃ x l, us = x :: l := by cases us with | nil => simp at h | cons x l => exact ⟨x, l, rfl⟩
  replace h := Nat.succ.inj h
  obtain ⟨u49, us, rfl⟩ : ∃ x l, us = x :: l := by cases us with | nil => simp at h | cons x l => exact ⟨x, l, rfl⟩
  replace h := Nat.succ.inj h
  obtain ⟨u50, us, rfl⟩ : ∃ x l, us = x :: l := by cases us with | nil => simp at h | cons x l => exact ⟨x, l, rfl⟩
  replace h := Nat.succ.inj h
  obtain ⟨u51, us, rfl⟩ : ∃ x l, us = x :: l := by cases us with | nil => simp at h | cons x l => exact ⟨x, l, rfl⟩
  replace h := Nat.succ.inj h
  obtain ⟨u52, us, rfl⟩ : ∃ x l, us = x :: l := by cases us with | nil => simp at h | cons x l => exact ⟨x, l, rfl⟩
  replace h := Nat.succ.inj h
  obtain ⟨u53, us, rfl⟩ : ∃ x l, us = x :: l := by cases us with | nil => simp at h | cons x l => exact ⟨x, l, rfl⟩
  replace h := Nat.succ.inj h
  obtain ⟨u54, us, rfl⟩ : ∃ x l, us = x :: l := by cases us with | nil => simp at h | cons x l => exact ⟨x, l, rfl⟩
  replace h := Nat.succ.inj h
  obtain ⟨u55, us, rfl⟩ : ∃ x l, us = x :: l := by cases us with | nil => simp at h | cons x l => exact ⟨x, l, rfl⟩
  replace h := Nat.succ.inj h
  obtain ⟨u56, us, rfl⟩ : ∃ x l, us = x :: l := by cases us with | nil => simp at h | cons x l => exact ⟨x, l, rfl⟩
  replace h := Nat.succ.inj h
  obtain ⟨u57, us, rfl⟩ : ∃ x l, us = x :: l := by cases us with | nil => simp at h | cons x l => exact ⟨x, l, rfl⟩
  replace h := Nat.succ.inj h
  obtain ⟨u58, us, rfl⟩ : ∃ x l, us = x :: l := by cases us with | nil => simp at h | cons x l => exact ⟨x, l, rfl⟩
  replace h := Nat.succ.inj h
  obtain ⟨u59, us, rfl⟩ : ∃ x l, us = x :: l := by cases us with | nil => simp at h | cons x l => exact ⟨x, l, rfl⟩
  replace h := Nat.succ.inj h
  obtain ⟨u60, us, rfl⟩ : ∃ x l, us = x :: l := by cases us with | nil => simp at h | cons x l => exact ⟨x, l, rfl⟩
  replace h := Nat.succ.inj h
  obtain ⟨u61, us, rfl⟩ : ∃ x l, us = x :: l := by cases us with | nil => simp at h | cons x l => exact ⟨x, l, rfl⟩
  replace h := Nat.succ.inj h
  obtain ⟨u62, us, rfl⟩ : ∃ x l, us = x :: l := by cases us with | nil => simp at h | cons x l => exact ⟨x, l, rfl⟩
  replace h := Nat.succ.inj h
  obtain ⟨u63, us, rfl⟩ : ∃ x l, us = x :: l := by cases us with | nil => simp at h | cons x l => exact ⟨x, l, rfl⟩
  replace h := Nat.succ.inj h
  obtain ⟨u64, us, rfl⟩ : ∃ x l, us = x :: l := by cases us with | nil => simp at h | cons x l => exact ⟨x, l, rfl⟩
  replace h := Nat.succ.inj h
  obtain ⟨u65, us, rfl⟩ : ∃ x l, us = x :: l := by cases us with | nil => simp at h | cons x l => exact ⟨x, l, rfl⟩
  replace h := Nat.succ.inj h
  obtain ⟨u66, us, rfl⟩ : ∃ x l, us = x :: l := by cases us with | nil => simp at h | cons x l => exact ⟨x, l, rfl⟩
  replace h := Nat.succ.inj h
  obtain ⟨u67, us, rfl⟩ : ∃ x l, us = x :: l := by cases us with | nil => simp at h | cons x l => exact ⟨x, l, rfl⟩
  replace h := Nat.succ.inj h
  obtain ⟨u68, us, rfl⟩ : ∃ x l, us = x :: l := by cases us with | nil => simp at h | cons x l => exact ⟨x, l, rfl⟩
  replace h := Nat.succ.inj h
  obtain ⟨u69, us, rfl⟩ : ∃ x l, us = x :: l := by cases us with | nil => simp at h | cons x l => exact ⟨x, l, rfl⟩
  replace h := Nat.succ.inj h
  obtain ⟨u70, us, rfl⟩ : ∃ x l, us = x :: l := by cases us with | nil => simp at h | cons x l => exact ⟨x, l, rfl⟩
  replace h := Nat.succ.inj h
  obtain ⟨u71, us, rfl⟩ : ∃ x l, us = x :: l := by cases us with | nil => simp at h | cons x l => exact ⟨x, l, rfl⟩
  replace h := Nat.succ.inj h
  obtain rfl : us = [] := List.eq_nil_of_length_eq_zero h
  exact ⟨u3, u4, u5, u6, u7, u8, u9, u10, u11, u12, u13, u14, u15, u16, u17, u18, u19, u20, u21, u22, u23, u24, u25, u26, u27, u28, u29, u30, u31, u32, u33, u34, u35, u36, u37, u38, u39, u40, u41, u42, u43, u44, u45, u46, u47, u48, u49, u50, u51, u52, u53, u54, u55, u56, u57, u58, u59, u60, u61, u62, u63, u64, u65, u66, u67, u68, u69, u70, u71, rfl⟩
/-- The sign of the quote in which a label's letters stand: 0 single, 1 double, 2 bare. -/
def lbM : Nat → Nat
  | 0 => 39
  | 1 => 34
  | _ => 0
/-- What holds at a label. -/
def LtJ (w0 : World) (b tb : Nat) (line : ByteArray) (n mk : Nat) (v : Value) (ps : List Pc) (s : Value) (P : Nat) (T : List Nat) (M : Nat) (lb g : Nat) (a : Act) (w : World) : Prop :=
  lb ≤ 2 ∧ ∃ (us : List Value) (p : Nat) (tv : Value) (l : List Nat), us.length = 69 ∧ a = { tmps := (.pointer (some ⟨b, 0, none⟩) :: s :: .func (.func 25) #[.pointer (some ⟨tb, 0, none⟩)] #[] :: us).toArray, defers := [] } ∧
    LtH w0 w b tb line n p mk v ps tv l ∧ g = n - p ∧ p ≤ n ∧ l.length ≤ p ∧ p + (wd (lbM lb) ((bl line).drop p)).1 = P ∧ l ++ (wd (lbM lb) ((bl line).drop p)).2.1 = T ∧ (wd (lbM lb) ((bl line).drop p)).2.2 = M
section
variable {w0 W : World} {b tb n p mk : Nat} {line : ByteArray} {v tv : Value} {ps : List Pc} {l : List Nat}
theorem wd_add {m : Nat} {L : List Nat} {p : Nat} {x : Nat × List Nat × Nat} (h : stp m (L.drop p) = some x) {P : Nat} {T : List Nat} {M : Nat} (h1 : p + (wd m (L.drop p)).1 = P) (h2 : l ++ (wd m (L.drop p)).2.1 = T) (h3 : (wd m (L.drop p)).2.2 = M) :
    p + x.1 + (wd x.2.2 (L.drop (p + x.1))).1 = P ∧ (l ++ x.2.1) ++ (wd x.2.2 (L.drop (p + x.1))).2.1 = T ∧ (wd x.2.2 (L.drop (p + x.1))).2.2 = M := by
  rw [wd_step h, List.drop_drop] at h1 h2 h3
  exact ⟨by rw [← h1]; simp only []; omega, by rw [← h2, List.append_assoc], h3⟩

theorem stp_end {m : Nat} {l : List Nat} (h : con l = 0) : stp m l = none := by
  rcases con_zero h with rfl | rfl
  · rfl
  · rfl
theorem stp_bhd {l : List Nat} (h : bhd l = true) : stp 0 l = none := by
  cases l with
  | nil => rfl
  | cons c r =>
    rw [stp_cons]
    by_cases h0 : con (c :: r) = 0
    · rw [if_pos h0]
    · rw [if_neg h0, if_neg (by decide), if_neg (by decide), if_pos h]
theorem stp_0 {c : Nat} {r : List Nat} (h : bhd (c :: r) = false) : stp 0 (c :: r) = some (if c = 39 then (1, [], 39) else if c = 34 then (1, [], 34) else if c = 92 then ((alg false r).1 + 1, [(alg false r).2], 0) else (1, [c], 0)) := by
  have h0 : con (c :: r) ≠ 0 := fun e => by unfold bhd at h; rw [e] at h; simp at h
  rw [stp_cons, if_neg h0, if_neg (by decide), if_neg (by decide), if_neg (by rw [h]; decide)]
theorem stp_39 {c : Nat} {r : List Nat} (h0 : con (c :: r) ≠ 0) : stp 39 (c :: r) = some (if c = 39 then (1, [], 0) else (1, [c], 39)) := by
  rw [stp_cons, if_neg h0, if_pos rfl]
theorem stp_34 {c : Nat} {r : List Nat} (h0 : con (c :: r) ≠ 0) : stp 34 (c :: r) = some (if c = 34 then (1, [], 0) else if c = 92 then ((alg true r).1 + 1, [(alg true r).2], 34) else (1, [c], 34)) := by
  rw [stp_cons, if_neg h0, if_neg (by decide), if_pos rfl]
set_option maxRecDepth 100000 in
set_option maxHeartbeats 4000000 in
theorem letters_any (hT : TabH w0) (hn : n = con (bl line)) (hs : (line.size : Int) ≤ 1000000) (m : Nat) (hm : m = 0 ∨ m = 39 ∨ m = 34) (h : LtH w0 W b tb line n p mk v ps tv []) (hp : p ≤ n) :
    Calls Tryd.prog 24 #[.pointer (some ⟨b, 0, none⟩), .int .u8 (m : Nat), .func (.func 25) #[.pointer (some ⟨tb, 0, none⟩)] #[]] W fun e w' => e = .returned (.int .u8 ((wd m ((bl line).drop p)).2.2 : Nat)) ∧ ∃ tv', LtH w0 w' b tb line n (p + (wd m ((bl line).drop p)).1) mk v ps tv' (wd m ((bl line).drop p)).2.1 := by
  obtain ⟨P, hP⟩ : ∃ P, p + (wd m ((bl line).drop p)).1 = P := ⟨_, rfl⟩
  obtain ⟨T, hTT⟩ : ∃ T, (wd m ((bl line).drop p)).2.1 = T := ⟨_, rfl⟩
  obtain ⟨M, hM⟩ : ∃ M, (wd m ((bl line).drop p)).2.2 = M := ⟨_, rfl⟩
  rw [hP, hTT, hM]
  obtain ⟨z, hz⟩ : ∃ z : Int, (m : Int) = z := ⟨_, rfl⟩
  rw [hz]
  have hle := con_le (bl line)
  rw [bl_len, ← hn] at hle
  have HLE := Lib.hid hle
  have HN := Lib.hid hn
  have HS := Lib.hid hs
  have HT := Lib.hid hT
  have hcd : con ((bl line).drop p) = n - p := by rw [con_drop p _ (by omega)]; omega
  have hdr : p < n → (bl line).drop p = bt line p :: (bl line).drop (p + 1) := fun h => bl_drop (by omega)
  have HPN0 := Lib.hid hp
  have HZ := Lib.hid hz
  have HM0 := Lib.hid hm
  have HP := Lib.hid hP
  have HTT := Lib.hid hTT
  have HM := Lib.hid hM
  have HL := Lib.hid h
  have HCD := Lib.hid hcd
  have HDR := Lib.hid hdr
  clear hle hs hT hn hcd hdr hp hz hm hP hTT hM h
  go_enter Tryd.func24, Tryd.ntmps24
  go_wp2
  refine wp_scope_many (fun lb g a w => LtJ w0 b tb line n mk v ps (.int .u8 z) P T M lb g a w) ?pass ?first

  case first =>
    rcases HM0.out with rfl | rfl | rfl
    case' inr.inl =>
      obtain rfl : z = 39 := HZ.out.symm
    case' inr.inr =>
      obtain rfl : z = 34 := HZ.out.symm
    case inl =>
      obtain rfl : z = 0 := HZ.out.symm
      obtain ⟨l, hl⟩ : ∃ l : List Nat, [] = l := ⟨_, rfl⟩
      rw [hl] at HL
      have hP := HP.out
      have hTT : l ++ (wd 0 ((bl line).drop p)).2.1 = T := by rw [← hl]; exact HTT.out
      have hM := HM.out
      have hcd := HCD.out
      have hdr := HDR.out
      have HLL := Lib.hid (show l.length ≤ 1000000 from by rw [← hl]; simp)
      have HLP := Lib.hid (show l.length ≤ p from by rw [← hl]; simp)
      have hll : l.length ≤ p := HLP.out
      have hp : p ≤ n := HPN0.out
      have HB := Lib.hid (isBehind_any (HT.out.up HL.out.rd.up) HN.out HPN0.out (HL.out.rd.cell rfl) (HL.out.rd.cell rfl) (HL.out.rd.cell rfl))
      clear HP HTT HM HZ HM0 HCD HDR hl
      go_wp2
      go_step3
      cases hb : bhd ((bl line).drop p) with
      | true =>
        rw [hb] at HB
        rw [wd_stop (stp_bhd hb)] at hP hTT hM
        obtain rfl : p = P := hP
        obtain rfl : l = T := by simpa using hTT
        obtain rfl : 0 = M := hM
        clear hcd hdr hb
        go_wp2_with (first | (go_at_call 32; ((with_reducible refine (HB.out).mono ?_); rintro e w1 ⟨rfl, hd1⟩; have HL := Lib.hid (HL.out.more hd1.up); clear hd1)))
        try simp only [exJ_ret]
        go_ret
        exact ⟨rfl, _, HL.out⟩
      | false =>
        rw [hb] at HB
        have hlt : p < n := Nat.lt_of_not_le fun hge => by unfold bhd at hb; rw [hcd, show n - p = 0 from by omega] at hb; simp at hb
        have HPL := Lib.hid (show p < line.size from by have := HLE.out; omega)
        have HPN := Lib.hid (show p + 1 ≤ n from hlt)
        have hd := hdr hlt
        obtain ⟨c, hc⟩ : ∃ c, bt line p = c := ⟨_, rfl⟩
        have HC := Lib.hid hc
        have HCC := Lib.hid (show c < 256 from by rw [← hc]; exact bt_lt _ _)
        rw [hc] at hd
        clear hdr hc
        rw [hd] at hb
        have hs0 := stp_0 hb
        rw [← hd] at hs0
        clear hb
        by_cases h39 : c = 39
        · subst h39
          rw [if_pos rfl] at hs0
          clear hd
          have hst : stp 0 ((bl line).drop p) = some (1, [], 39) := hs0
          have HA := Lib.hid (wd_add hst hP hTT hM)
          obtain ⟨q0, q1, q2, q3, -⟩ := stp_con hst
          have HAD := Lib.hid (show 1 ≤ 1 from q1)
          have HPQ := Lib.hid (show p + 1 ≤ n from by simp only [] at q2; omega)
          have HLQ := Lib.hid (show (l ++ []).length ≤ p + 1 from by rw [List.length_append]; simp only [] at q3; omega)
          clear hst hP hTT hM q0 q1 q2 q3
          clear hs0 hcd
          go_wp2_with (first | (go_at_call 32; ((with_reducible refine (HB.out).mono ?_); rintro e w1 ⟨rfl, hd1⟩; have HL := Lib.hid (HL.out.more hd1.up); clear hd1)) | (go_at_call 33; ((with_reducible refine (take_any HL.out HPL.out HS.out).mono ?_); rintro e w2 ⟨rfl, h2⟩; rw [HC.out]; have HL := Lib.hid h2; clear h2)))
          go_step3
          try simp only [exJ_goto]
          refine ⟨n - (p + 1), by decide, _, p + 1, _, l ++ [], ?_, rfl, (by rw [List.append_nil]; exact HL.out), rfl, HPQ.out, HLQ.out, HA.out.1, HA.out.2.1, HA.out.2.2⟩
          · rfl
        rw [if_neg h39] at hs0
        have e39 : ((c : Int) == 39) = false := beq_eq_false_iff_ne.2 (by omega)
        by_cases h34 : c = 34
        · subst h34
          rw [if_pos rfl] at hs0
          clear hd e39 h39
          have hst : stp 0 ((bl line).drop p) = some (1, [], 34) := hs0
          have HA := Lib.hid (wd_add hst hP hTT hM)
          obtain ⟨q0, q1, q2, q3, -⟩ := stp_con hst
          have HAD := Lib.hid (show 1 ≤ 1 from q1)
          have HPQ := Lib.hid (show p + 1 ≤ n from by simp only [] at q2; omega)
          have HLQ := Lib.hid (show (l ++ []).length ≤ p + 1 from by rw [List.length_append]; simp only [] at q3; omega)
          clear hst hP hTT hM q0 q1 q2 q3
          clear hs0 hcd
          go_wp2_with (first | (go_at_call 32; ((with_reducible refine (HB.out).mono ?_); rintro e w1 ⟨rfl, hd1⟩; have HL := Lib.hid (HL.out.more hd1.up); clear hd1)) | (go_at_call 33; ((with_reducible refine (take_any HL.out HPL.out HS.out).mono ?_); rintro e w2 ⟨rfl, h2⟩; rw [HC.out]; have HL := Lib.hid h2; clear h2)))
          go_step3
          try simp only [exJ_goto]
          refine ⟨n - (p + 1), by decide, _, p + 1, _, l ++ [], ?_, rfl, (by rw [List.append_nil]; exact HL.out), rfl, HPQ.out, HLQ.out, HA.out.1, HA.out.2.1, HA.out.2.2⟩
          · rfl
        rw [if_neg h34] at hs0
        have e34 : ((c : Int) == 34) = false := beq_eq_false_iff_ne.2 (by omega)
        by_cases h92 : c = 92
        · subst h92
          rw [if_pos rfl] at hs0
          clear hd e39 e34 h39 h34
          have hst : stp 0 ((bl line).drop p) = some (((alg false ((bl line).drop (p + 1))).1 + 1), [(alg false ((bl line).drop (p + 1))).2], 0) := hs0
          have HA := Lib.hid (wd_add hst hP hTT hM)
          obtain ⟨q0, q1, q2, q3, -⟩ := stp_con hst
          have HAD := Lib.hid (show 1 ≤ ((alg false ((bl line).drop (p + 1))).1 + 1) from q1)
          have HPQ := Lib.hid (show p + ((alg false ((bl line).drop (p + 1))).1 + 1) ≤ n from by simp only [] at q2; omega)
          have HLQ := Lib.hid (show (l ++ [(alg false ((bl line).drop (p + 1))).2]).length ≤ p + ((alg false ((bl line).drop (p + 1))).1 + 1) from by rw [List.length_append]; simp only [] at q3; omega)
          clear hst hP hTT hM q0 q1 q2 q3
          clear hs0 hcd
          have HCC := Lib.hid (alg_lt false line (p + 1))
          go_wp2_with (first | (go_at_call 32; ((with_reducible refine (HB.out).mono ?_); rintro e w1 ⟨rfl, hd1⟩; have HL := Lib.hid (HL.out.more hd1.up); clear hd1)) | (go_at_call 33; ((with_reducible refine (take_any HL.out HPL.out HS.out).mono ?_); rintro e w2 ⟨rfl, h2⟩; rw [HC.out]; have HL := Lib.hid h2; clear h2)) | (go_at_call 34; ((with_reducible refine (along_any false HL.out HN.out HPN.out HS.out).mono ?_); rintro e w3 ⟨rfl, h3⟩; have HL := Lib.hid h3; clear h3)) | (go_at_call 25; ((with_reducible refine (say_any HL.out _ HCC.out HLL.out).mono ?_); rintro e w4 ⟨rfl, tv4, h4⟩; have HL := Lib.hid h4; clear h4)))
          go_step3
          try simp only [exJ_goto]
          refine ⟨n - (p + ((alg false ((bl line).drop (p + 1))).1 + 1)), by decide, _, p + ((alg false ((bl line).drop (p + 1))).1 + 1), _, l ++ [(alg false ((bl line).drop (p + 1))).2], ?_, rfl, (by rw [show p + ((alg false ((bl line).drop (p + 1))).1 + 1) = p + 1 + (alg false ((bl line).drop (p + 1))).1 from by omega]; exact HL.out), rfl, HPQ.out, HLQ.out, HA.out.1, HA.out.2.1, HA.out.2.2⟩
          · rfl
        rw [if_neg h92] at hs0
        have e92 : ((c : Int) == 92) = false := beq_eq_false_iff_ne.2 (by omega)
        clear hd h39 h34 h92
        have hst : stp 0 ((bl line).drop p) = some (1, [c], 0) := hs0
        have HA := Lib.hid (wd_add hst hP hTT hM)
        obtain ⟨q0, q1, q2, q3, -⟩ := stp_con hst
        have HAD := Lib.hid (show 1 ≤ 1 from q1)
        have HPQ := Lib.hid (show p + 1 ≤ n from by simp only [] at q2; omega)
        have HLQ := Lib.hid (show (l ++ [c]).length ≤ p + 1 from by rw [List.length_append]; simp only [] at q3; omega)
        clear hst hP hTT hM q0 q1 q2 q3
        clear hs0 hcd
        go_wp2_with (first | (go_at_call 32; ((with_reducible refine (HB.out).mono ?_); rintro e w1 ⟨rfl, hd1⟩; have HL := Lib.hid (HL.out.more hd1.up); clear hd1)) | (go_at_call 33; ((with_reducible refine (take_any HL.out HPL.out HS.out).mono ?_); rintro e w2 ⟨rfl, h2⟩; rw [HC.out]; have HL := Lib.hid h2; clear h2)) | (go_at_call 25; ((with_reducible refine (say_any HL.out _ HCC.out HLL.out).mono ?_); rintro e w4 ⟨rfl, tv4, h4⟩; have HL := Lib.hid h4; clear h4)))
        go_step3
        try simp only [exJ_goto]
        refine ⟨n - (p + 1), by decide, _, p + 1, _, l ++ [c], ?_, rfl, HL.out, rfl, HPQ.out, HLQ.out, HA.out.1, HA.out.2.1, HA.out.2.2⟩
        · rfl
    case inr.inl =>
      go_wp2
      go_step3
      try simp only [exJ_goto]
      exact ⟨n - p, by decide, _, p, _, [], rfl, rfl, HL.out, rfl, HPN0.out, Nat.zero_le _, HP.out, HTT.out, HM.out⟩
    case inr.inr =>
      go_wp2
      go_step3
      try simp only [exJ_goto]
      exact ⟨n - p, by decide, _, p, _, [], rfl, rfl, HL.out, rfl, HPN0.out, Nat.zero_le _, HP.out, HTT.out, HM.out⟩
  case pass =>
    clear HP HTT HM HL HPN0 HZ HM0 HCD HDR
    rintro lb g a w ⟨hlb, us, p, tv, l, hus, rfl, hL, hg, hp, hll, hP, hTT, hM⟩
    obtain ⟨u3, u4, u5, u6, u7, u8, u9, u10, u11, u12, u13, u14, u15, u16, u17, u18, u19, u20, u21, u22, u23, u24, u25, u26, u27, u28, u29, u30, u31, u32, u33, u34, u35, u36, u37, u38, u39, u40, u41, u42, u43, u44, u45, u46, u47, u48, u49, u50, u51, u52, u53, u54, u55, u56, u57, u58, u59, u60, u61, u62, u63, u64, u65, u66, u67, u68, u69, u70, u71, rfl⟩ := list69 us hus
    have HL := Lib.hid hL
    have HG := Lib.hid hg
    have HPN0 := Lib.hid hp
    have HB := Lib.hid (isBehind_any (HT.out.up hL.rd.up) HN.out hp (hL.rd.cell rfl) (hL.rd.cell rfl) (hL.rd.cell rfl))
    have hcd : con ((bl line).drop p) = n - p := by rw [con_drop p _ (by have := HN.out; omega)]; have := HN.out; omega
    have hdr : p < n → (bl line).drop p = bt line p :: (bl line).drop (p + 1) := fun h => bl_drop (by have := HLE.out; omega)
    have HLL := Lib.hid (show l.length ≤ 1000000 from by have := HLE.out; have := HS.out; omega)
    clear hL hg hus
    match lb, hlb with
    | 2, _ =>
      refine ⟨_, rfl, ?_⟩
      have hP : p + (wd 0 ((bl line).drop p)).1 = P := hP
      have hTT : l ++ (wd 0 ((bl line).drop p)).2.1 = T := hTT
      have hM : (wd 0 ((bl line).drop p)).2.2 = M := hM
      cases hb : bhd ((bl line).drop p) with
      | true =>
        rw [hb] at HB
        rw [wd_stop (stp_bhd hb)] at hP hTT hM
        obtain rfl : p = P := hP
        obtain rfl : l = T := by simpa using hTT
        obtain rfl : 0 = M := hM
        clear hcd hdr hb
        go_wp2_with (first | (go_at_call 32; ((with_reducible refine (HB.out).mono ?_); rintro e w1 ⟨rfl, hd1⟩; have HL := Lib.hid (HL.out.more hd1.up); clear hd1)))
        try simp only [exJ_ret]
        go_ret
        exact ⟨rfl, _, HL.out⟩
      | false =>
        rw [hb] at HB
        have hlt : p < n := Nat.lt_of_not_le fun hge => by unfold bhd at hb; rw [hcd, show n - p = 0 from by omega] at hb; simp at hb
        have HPL := Lib.hid (show p < line.size from by have := HLE.out; omega)
        have HPN := Lib.hid (show p + 1 ≤ n from hlt)
        have hd := hdr hlt
        obtain ⟨c, hc⟩ : ∃ c, bt line p = c := ⟨_, rfl⟩
        have HC := Lib.hid hc
        have HCC := Lib.hid (show c < 256 from by rw [← hc]; exact bt_lt _ _)
        rw [hc] at hd
        clear hdr hc
        rw [hd] at hb
        have hs0 := stp_0 hb
        rw [← hd] at hs0
        clear hb
        by_cases h39 : c = 39
        · subst h39
          rw [if_pos rfl] at hs0
          clear hd
          have hst : stp 0 ((bl line).drop p) = some (1, [], 39) := hs0
          have HA := Lib.hid (wd_add hst hP hTT hM)
          obtain ⟨q0, q1, q2, q3, -⟩ := stp_con hst
          have HAD := Lib.hid (show 1 ≤ 1 from q1)
          have HPQ := Lib.hid (show p + 1 ≤ n from by simp only [] at q2; omega)
          have HLQ := Lib.hid (show (l ++ []).length ≤ p + 1 from by rw [List.length_append]; simp only [] at q3; omega)
          clear hst hP hTT hM q0 q1 q2 q3
          clear hs0 hcd
          go_wp2_with (first | (go_at_call 32; ((with_reducible refine (HB.out).mono ?_); rintro e w1 ⟨rfl, hd1⟩; have HL := Lib.hid (HL.out.more hd1.up); clear hd1)) | (go_at_call 33; ((with_reducible refine (take_any HL.out HPL.out HS.out).mono ?_); rintro e w2 ⟨rfl, h2⟩; rw [HC.out]; have HL := Lib.hid h2; clear h2)))
          go_step3
          try simp only [exJ_goto]
          refine ⟨n - (p + 1), ?_, by decide, _, p + 1, _, l ++ [], ?_, rfl, (by rw [List.append_nil]; exact HL.out), rfl, HPQ.out, HLQ.out, HA.out.1, HA.out.2.1, HA.out.2.2⟩
          · have := HPN.out; have := HG.out; have := HAD.out; omega
          · rfl
        rw [if_neg h39] at hs0
        have e39 : ((c : Int) == 39) = false := beq_eq_false_iff_ne.2 (by omega)
        by_cases h34 : c = 34
        · subst h34
          rw [if_pos rfl] at hs0
          clear hd e39 h39
          have hst : stp 0 ((bl line).drop p) = some (1, [], 34) := hs0
          have HA := Lib.hid (wd_add hst hP hTT hM)
          obtain ⟨q0, q1, q2, q3, -⟩ := stp_con hst
          have HAD := Lib.hid (show 1 ≤ 1 from q1)
          have HPQ := Lib.hid (show p + 1 ≤ n from by simp only [] at q2; omega)
          have HLQ := Lib.hid (show (l ++ []).length ≤ p + 1 from by rw [List.length_append]; simp only [] at q3; omega)
          clear hst hP hTT hM q0 q1 q2 q3
          clear hs0 hcd
          go_wp2_with (first | (go_at_call 32; ((with_reducible refine (HB.out).mono ?_); rintro e w1 ⟨rfl, hd1⟩; have HL := Lib.hid (HL.out.more hd1.up); clear hd1)) | (go_at_call 33; ((with_reducible refine (take_any HL.out HPL.out HS.out).mono ?_); rintro e w2 ⟨rfl, h2⟩; rw [HC.out]; have HL := Lib.hid h2; clear h2)))
          go_step3
          try simp only [exJ_goto]
          refine ⟨n - (p + 1), ?_, by decide, _, p + 1, _, l ++ [], ?_, rfl, (by rw [List.append_nil]; exact HL.out), rfl, HPQ.out, HLQ.out, HA.out.1, HA.out.2.1, HA.out.2.2⟩
          · have := HPN.out; have := HG.out; have := HAD.out; omega
          · rfl
        rw [if_neg h34] at hs0
        have e34 : ((c : Int) == 34) = false := beq_eq_false_iff_ne.2 (by omega)
        by_cases h92 : c = 92
        · subst h92
          rw [if_pos rfl] at hs0
          clear hd e39 e34 h39 h34
          have hst : stp 0 ((bl line).drop p) = some (((alg false ((bl line).drop (p + 1))).1 + 1), [(alg false ((bl line).drop (p + 1))).2], 0) := hs0
          have HA := Lib.hid (wd_add hst hP hTT hM)
          obtain ⟨q0, q1, q2, q3, -⟩ := stp_con hst
          have HAD := Lib.hid (show 1 ≤ ((alg false ((bl line).drop (p + 1))).1 + 1) from q1)
          have HPQ := Lib.hid (show p + ((alg false ((bl line).drop (p + 1))).1 + 1) ≤ n from by simp only [] at q2; omega)
          have HLQ := Lib.hid (show (l ++ [(alg false ((bl line).drop (p + 1))).2]).length ≤ p + ((alg false ((bl line).drop (p + 1))).1 + 1) from by rw [List.length_append]; simp only [] at q3; omega)
          clear hst hP hTT hM q0 q1 q2 q3
          clear hs0 hcd
          have HCC := Lib.hid (alg_lt false line (p + 1))
          go_wp2_with (first | (go_at_call 32; ((with_reducible refine (HB.out).mono ?_); rintro e w1 ⟨rfl, hd1⟩; have HL := Lib.hid (HL.out.more hd1.up); clear hd1)) | (go_at_call 33; ((with_reducible refine (take_any HL.out HPL.out HS.out).mono ?_); rintro e w2 ⟨rfl, h2⟩; rw [HC.out]; have HL := Lib.hid h2; clear h2)) | (go_at_call 34; ((with_reducible refine (along_any false HL.out HN.out HPN.out HS.out).mono ?_); rintro e w3 ⟨rfl, h3⟩; have HL := Lib.hid h3; clear h3)) | (go_at_call 25; ((with_reducible refine (say_any HL.out _ HCC.out HLL.out).mono ?_); rintro e w4 ⟨rfl, tv4, h4⟩; have HL := Lib.hid h4; clear h4)))
          go_step3
          try simp only [exJ_goto]
          refine ⟨n - (p + ((alg false ((bl line).drop (p + 1))).1 + 1)), ?_, by decide, _, p + ((alg false ((bl line).drop (p + 1))).1 + 1), _, l ++ [(alg false ((bl line).drop (p + 1))).2], ?_, rfl, (by rw [show p + ((alg false ((bl line).drop (p + 1))).1 + 1) = p + 1 + (alg false ((bl line).drop (p + 1))).1 from by omega]; exact HL.out), rfl, HPQ.out, HLQ.out, HA.out.1, HA.out.2.1, HA.out.2.2⟩
          · have := HPN.out; have := HG.out; have := HAD.out; omega
          · rfl
        rw [if_neg h92] at hs0
        have e92 : ((c : Int) == 92) = false := beq_eq_false_iff_ne.2 (by omega)
        clear hd h39 h34 h92
        have hst : stp 0 ((bl line).drop p) = some (1, [c], 0) := hs0
        have HA := Lib.hid (wd_add hst hP hTT hM)
        obtain ⟨q0, q1, q2, q3, -⟩ := stp_con hst
        have HAD := Lib.hid (show 1 ≤ 1 from q1)
        have HPQ := Lib.hid (show p + 1 ≤ n from by simp only [] at q2; omega)
        have HLQ := Lib.hid (show (l ++ [c]).length ≤ p + 1 from by rw [List.length_append]; simp only [] at q3; omega)
        clear hst hP hTT hM q0 q1 q2 q3
        clear hs0 hcd
        go_wp2_with (first | (go_at_call 32; ((with_reducible refine (HB.out).mono ?_); rintro e w1 ⟨rfl, hd1⟩; have HL := Lib.hid (HL.out.more hd1.up); clear hd1)) | (go_at_call 33; ((with_reducible refine (take_any HL.out HPL.out HS.out).mono ?_); rintro e w2 ⟨rfl, h2⟩; rw [HC.out]; have HL := Lib.hid h2; clear h2)) | (go_at_call 25; ((with_reducible refine (say_any HL.out _ HCC.out HLL.out).mono ?_); rintro e w4 ⟨rfl, tv4, h4⟩; have HL := Lib.hid h4; clear h4)))
        go_step3
        try simp only [exJ_goto]
        refine ⟨n - (p + 1), ?_, by decide, _, p + 1, _, l ++ [c], ?_, rfl, HL.out, rfl, HPQ.out, HLQ.out, HA.out.1, HA.out.2.1, HA.out.2.2⟩
        · have := HPN.out; have := HG.out; have := HAD.out; omega
        · rfl
    | 0, _ =>
      refine ⟨_, rfl, ?_⟩
      have hP : p + (wd 39 ((bl line).drop p)).1 = P := hP
      have hTT : l ++ (wd 39 ((bl line).drop p)).2.1 = T := hTT
      have hM : (wd 39 ((bl line).drop p)).2.2 = M := hM
      clear HB
      have c1 : w.cell? ⟨b, 1, none⟩ = some (.int .i64 (n : Nat)) := HL.out.rd.cell rfl
      have c2 : w.cell? ⟨b, 2, none⟩ = some (.int .i64 (p : Nat)) := HL.out.rd.cell rfl
      by_cases hlt : p < n
      case neg =>
        obtain rfl : p = n := by omega
        rw [wd_stop (stp_end (by rw [hcd]; omega))] at hP hTT hM
        obtain rfl : p = P := hP
        obtain rfl : l = T := by simpa using hTT
        obtain rfl : 39 = M := hM
        clear hcd hdr
        go_wp2
        go_quiet (fail)
        have HL := Lib.hid (HL.out.more (Up.drewN w nq))
        go_wp2
        try simp only [exJ_ret]
        go_ret
        exact ⟨rfl, _, HL.out⟩
      have HPL := Lib.hid (show p < line.size from by have := HLE.out; omega)
      have HPN := Lib.hid (show p + 1 ≤ n from hlt)
      have hd := hdr hlt
      obtain ⟨c, hc⟩ : ∃ c, bt line p = c := ⟨_, rfl⟩
      have HC := Lib.hid hc
      have HCC := Lib.hid (show c < 256 from by rw [← hc]; exact bt_lt _ _)
      rw [hc] at hd
      clear hdr hc
      have hs0 := stp_39 (c := c) (r := (bl line).drop (p + 1)) (by rw [← hd, hcd]; omega)
      rw [← hd] at hs0
      have n0 : ((p : Int) == (n : Int)) = false := beq_eq_false_iff_ne.2 (by omega)
      by_cases hm2 : c = 39
      · subst hm2
        rw [if_pos rfl] at hs0
        clear hd
        have hst : stp 39 ((bl line).drop p) = some (1, [], 0) := hs0
        have HA := Lib.hid (wd_add hst hP hTT hM)
        obtain ⟨q0, q1, q2, q3, -⟩ := stp_con hst
        have HAD := Lib.hid (show 1 ≤ 1 from q1)
        have HPQ := Lib.hid (show p + 1 ≤ n from by simp only [] at q2; omega)
        have HLQ := Lib.hid (show (l ++ []).length ≤ p + 1 from by rw [List.length_append]; simp only [] at q3; omega)
        clear hst hP hTT hM q0 q1 q2 q3
        clear hs0 hcd
        go_wp2
        go_quiet (fail)
        have HL := Lib.hid (HL.out.more (Up.drewN w nq))
        clear c1 c2
        go_wp2_with (first | (go_at_call 33; ((with_reducible refine (take_any HL.out HPL.out HS.out).mono ?_); rintro e w2 ⟨rfl, h2⟩; rw [HC.out]; have HL := Lib.hid h2; clear h2)))
        go_step3
        try simp only [exJ_goto]
        refine ⟨n - (p + 1), ?_, by decide, _, p + 1, _, l ++ [], ?_, rfl, (by rw [List.append_nil]; exact HL.out), rfl, HPQ.out, HLQ.out, HA.out.1, HA.out.2.1, HA.out.2.2⟩
        · have := HPN.out; have := HG.out; have := HAD.out; omega
        · rfl
      rw [if_neg hm2] at hs0
      have em : ((c : Int) == 39) = false := beq_eq_false_iff_ne.2 (by omega)
      have em2 : ((c : Int) != 39) = true := by rw [bne, em]; rfl
      clear hd hm2
      have hst : stp 39 ((bl line).drop p) = some (1, [c], 39) := hs0
      have HA := Lib.hid (wd_add hst hP hTT hM)
      obtain ⟨q0, q1, q2, q3, -⟩ := stp_con hst
      have HAD := Lib.hid (show 1 ≤ 1 from q1)
      have HPQ := Lib.hid (show p + 1 ≤ n from by simp only [] at q2; omega)
      have HLQ := Lib.hid (show (l ++ [c]).length ≤ p + 1 from by rw [List.length_append]; simp only [] at q3; omega)
      clear hst hP hTT hM q0 q1 q2 q3
      clear hs0 hcd
      go_wp2
      go_quiet (fail)
      have HL := Lib.hid (HL.out.more (Up.drewN w nq))
      clear c1 c2
      go_wp2_with (first | (go_at_call 33; ((with_reducible refine (take_any HL.out HPL.out HS.out).mono ?_); rintro e w2 ⟨rfl, h2⟩; rw [HC.out]; have HL := Lib.hid h2; clear h2)) | (go_at_call 25; ((with_reducible refine (say_any HL.out _ HCC.out HLL.out).mono ?_); rintro e w4 ⟨rfl, tv4, h4⟩; have HL := Lib.hid h4; clear h4)))
      go_step3
      try simp only [exJ_goto]
      refine ⟨n - (p + 1), ?_, by decide, _, p + 1, _, l ++ [c], ?_, rfl, HL.out, rfl, HPQ.out, HLQ.out, HA.out.1, HA.out.2.1, HA.out.2.2⟩
      · have := HPN.out; have := HG.out; have := HAD.out; omega
      · rfl
    | 1, _ =>
      refine ⟨_, rfl, ?_⟩
      have hP : p + (wd 34 ((bl line).drop p)).1 = P := hP
      have hTT : l ++ (wd 34 ((bl line).drop p)).2.1 = T := hTT
      have hM : (wd 34 ((bl line).drop p)).2.2 = M := hM
      clear HB
      have c1 : w.cell? ⟨b, 1, none⟩ = some (.int .i64 (n : Nat)) := HL.out.rd.cell rfl
      have c2 : w.cell? ⟨b, 2, none⟩ = some (.int .i64 (p : Nat)) := HL.out.rd.cell rfl
      by_cases hlt : p < n
      case neg =>
        obtain rfl : p = n := by omega
        rw [wd_stop (stp_end (by rw [hcd]; omega))] at hP hTT hM
        obtain rfl : p = P := hP
        obtain rfl : l = T := by simpa using hTT
        obtain rfl : 34 = M := hM
        clear hcd hdr
        go_wp2
        go_quiet (fail)
        have HL := Lib.hid (HL.out.more (Up.drewN w nq))
        go_wp2
        try simp only [exJ_ret]
        go_ret
        exact ⟨rfl, _, HL.out⟩
      have HPL := Lib.hid (show p < line.size from by have := HLE.out; omega)
      have HPN := Lib.hid (show p + 1 ≤ n from hlt)
      have hd := hdr hlt
      obtain ⟨c, hc⟩ : ∃ c, bt line p = c := ⟨_, rfl⟩
      have HC := Lib.hid hc
      have HCC := Lib.hid (show c < 256 from by rw [← hc]; exact bt_lt _ _)
      rw [hc] at hd
      clear hdr hc
      have hs0 := stp_34 (c := c) (r := (bl line).drop (p + 1)) (by rw [← hd, hcd]; omega)
      rw [← hd] at hs0
      have n0 : ((p : Int) == (n : Int)) = false := beq_eq_false_iff_ne.2 (by omega)
      by_cases hm2 : c = 34
      · subst hm2
        rw [if_pos rfl] at hs0
        clear hd
        have hst : stp 34 ((bl line).drop p) = some (1, [], 0) := hs0
        have HA := Lib.hid (wd_add hst hP hTT hM)
        obtain ⟨q0, q1, q2, q3, -⟩ := stp_con hst
        have HAD := Lib.hid (show 1 ≤ 1 from q1)
        have HPQ := Lib.hid (show p + 1 ≤ n from by simp only [] at q2; omega)
        have HLQ := Lib.hid (show (l ++ []).length ≤ p + 1 from by rw [List.length_append]; simp only [] at q3; omega)
        clear hst hP hTT hM q0 q1 q2 q3
        clear hs0 hcd
        go_wp2
        go_quiet (fail)
        have HL := Lib.hid (HL.out.more (Up.drewN w nq))
        clear c1 c2
        go_wp2_with (first | (go_at_call 33; ((with_reducible refine (take_any HL.out HPL.out HS.out).mono ?_); rintro e w2 ⟨rfl, h2⟩; rw [HC.out]; have HL := Lib.hid h2; clear h2)))
        go_step3
        try simp only [exJ_goto]
        refine ⟨n - (p + 1), ?_, by decide, _, p + 1, _, l ++ [], ?_, rfl, (by rw [List.append_nil]; exact HL.out), rfl, HPQ.out, HLQ.out, HA.out.1, HA.out.2.1, HA.out.2.2⟩
        · have := HPN.out; have := HG.out; have := HAD.out; omega
        · rfl
      rw [if_neg hm2] at hs0
      have em : ((c : Int) == 34) = false := beq_eq_false_iff_ne.2 (by omega)
      have em2 : ((c : Int) != 34) = true := by rw [bne, em]; rfl
      by_cases h92 : c = 92
      · subst h92
        rw [if_pos rfl] at hs0
        clear hd em em2 hm2
        have hst : stp 34 ((bl line).drop p) = some (((alg true ((bl line).drop (p + 1))).1 + 1), [(alg true ((bl line).drop (p + 1))).2], 34) := hs0
        have HA := Lib.hid (wd_add hst hP hTT hM)
        obtain ⟨q0, q1, q2, q3, -⟩ := stp_con hst
        have HAD := Lib.hid (show 1 ≤ ((alg true ((bl line).drop (p + 1))).1 + 1) from q1)
        have HPQ := Lib.hid (show p + ((alg true ((bl line).drop (p + 1))).1 + 1) ≤ n from by simp only [] at q2; omega)
        have HLQ := Lib.hid (show (l ++ [(alg true ((bl line).drop (p + 1))).2]).length ≤ p + ((alg true ((bl line).drop (p + 1))).1 + 1) from by rw [List.length_append]; simp only [] at q3; omega)
        clear hst hP hTT hM q0 q1 q2 q3
        clear hs0 hcd
        go_wp2
        go_quiet (fail)
        have HL := Lib.hid (HL.out.more (Up.drewN w nq))
        clear c1 c2
        have HCC := Lib.hid (alg_lt true line (p + 1))
        go_wp2_with (first | (go_at_call 33; ((with_reducible refine (take_any HL.out HPL.out HS.out).mono ?_); rintro e w2 ⟨rfl, h2⟩; rw [HC.out]; have HL := Lib.hid h2; clear h2)) | (go_at_call 34; ((with_reducible refine (along_any true HL.out HN.out HPN.out HS.out).mono ?_); rintro e w3 ⟨rfl, h3⟩; have HL := Lib.hid h3; clear h3)) | (go_at_call 25; ((with_reducible refine (say_any HL.out _ HCC.out HLL.out).mono ?_); rintro e w4 ⟨rfl, tv4, h4⟩; have HL := Lib.hid h4; clear h4)))
        go_step3
        try simp only [exJ_goto]
        refine ⟨n - (p + ((alg true ((bl line).drop (p + 1))).1 + 1)), ?_, by decide, _, p + ((alg true ((bl line).drop (p + 1))).1 + 1), _, l ++ [(alg true ((bl line).drop (p + 1))).2], ?_, rfl, (by rw [show p + ((alg true ((bl line).drop (p + 1))).1 + 1) = p + 1 + (alg true ((bl line).drop (p + 1))).1 from by omega]; exact HL.out), rfl, HPQ.out, HLQ.out, HA.out.1, HA.out.2.1, HA.out.2.2⟩
        · have := HPN.out; have := HG.out; have := HAD.out; omega
        · rfl
      rw [if_neg h92] at hs0
      have e92 : ((c : Int) == 92) = false := beq_eq_false_iff_ne.2 (by omega)
      clear hd hm2 h92
      have hst : stp 34 ((bl line).drop p) = some (1, [c], 34) := hs0
      have HA := Lib.hid (wd_add hst hP hTT hM)
      obtain ⟨q0, q1, q2, q3, -⟩ := stp_con hst
      have HAD := Lib.hid (show 1 ≤ 1 from q1)
      have HPQ := Lib.hid (show p + 1 ≤ n from by simp only [] at q2; omega)
      have HLQ := Lib.hid (show (l ++ [c]).length ≤ p + 1 from by rw [List.length_append]; simp only [] at q3; omega)
      clear hst hP hTT hM q0 q1 q2 q3
      clear hs0 hcd
      go_wp2
      go_quiet (fail)
      have HL := Lib.hid (HL.out.more (Up.drewN w nq))
      clear c1 c2
      go_wp2_with (first | (go_at_call 33; ((with_reducible refine (take_any HL.out HPL.out HS.out).mono ?_); rintro e w2 ⟨rfl, h2⟩; rw [HC.out]; have HL := Lib.hid h2; clear h2)) | (go_at_call 25; ((with_reducible refine (say_any HL.out _ HCC.out HLL.out).mono ?_); rintro e w4 ⟨rfl, tv4, h4⟩; have HL := Lib.hid h4; clear h4)))
      go_step3
      try simp only [exJ_goto]
      refine ⟨n - (p + 1), ?_, by decide, _, p + 1, _, l ++ [c], ?_, rfl, HL.out, rfl, HPQ.out, HLQ.out, HA.out.1, HA.out.2.1, HA.out.2.2⟩
      · have := HPN.out; have := HG.out; have := HAD.out; omega
      · rfl
end
end Go.Proofs.YtmeipmkiknekjaaDoor
