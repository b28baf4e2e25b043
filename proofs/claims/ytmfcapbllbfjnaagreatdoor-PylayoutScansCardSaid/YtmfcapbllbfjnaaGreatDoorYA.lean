/- What stands in a line of Python's, in plain mathematics. Nothing of a line is lost, in plain mathematics; a scan hangs on neither its fuel nor its place. -/
import Derived.Test.YtmfcapbllbfjnaaGreatDoorBase
import Derived.Lib.Strings
namespace Go.Proofs.YtmfcapbllbfjnaaGreatDoor

/-- The bytes of a text. -/
def bl (s : ByteArray) : List Nat := s.data.toList.map (·.toNat)
theorem bl_len (s : ByteArray) : (bl s).length = s.size := by unfold bl; rw [List.length_map, ← Lib.size_eq]
theorem bl_at {s : ByteArray} {i : Nat} (h : i < s.size) : (bl s)[i]? = some (bt s i) := by
  unfold bl
  rw [List.getElem?_map, List.getElem?_eq_getElem (by rw [← Lib.size_eq]; exact h), bt_list s i h]
  rfl
theorem bl_drop {s : ByteArray} {p : Nat} (h : p < s.size) : (bl s).drop p = bt s p :: (bl s).drop (p + 1) := by
  have h1 : p < (bl s).length := by rw [bl_len]; exact h
  rw [List.drop_eq_getElem_cons h1]
  congr 1
  have := bl_at h
  rw [List.getElem?_eq_getElem h1] at this
  exact Option.some.inj this
theorem bl_end {s : ByteArray} {p : Nat} (h : s.size ≤ p) : (bl s).drop p = [] := List.drop_of_length_le (by rw [bl_len]; exact h)
theorem bl_extract (s : ByteArray) (a b : Nat) : bl (s.extract a b) = ((bl s).take b).drop a := by
  unfold bl
  rw [show (s.extract a b).data.toList = (s.data.toList.take b).drop a from by
    simp [ByteArray.data_extract, Array.toList_extract, List.extract, List.drop_take]]
  simp [List.map_drop, List.map_take]
theorem bl_inj {s t : ByteArray} (h : bl s = bl t) : s = t := by
  have h1 : s.data.toList = t.data.toList := (List.map_inj_right (f := UInt8.toNat) (fun a b e => UInt8.toNat_inj.1 e)).1 h
  cases s; cases t
  congr 1
  exact Array.toList_inj.1 h1
theorem bl_append (s t : ByteArray) : bl (s ++ t) = bl s ++ bl t := by simp [bl]
theorem bl_lt {s : ByteArray} {c : Nat} (h : c ∈ bl s) : c < 256 := by
  unfold bl at h
  obtain ⟨x, -, rfl⟩ := List.mem_map.1 h
  exact x.toNat_lt
def isBl (c : Nat) : Bool := c == 32 || c == 9 || c == 12 || c == 13
def letN (c : Nat) : Bool := decide ((97 ≤ c ∧ c ≤ 122) ∨ (65 ≤ c ∧ c ≤ 90) ∨ c = 95 ∨ 128 ≤ c)
def digN (c : Nat) : Bool := decide (48 ≤ c ∧ c ≤ 57)
/-- The quotes of a mark. -/
def quo (m : Nat) : List Nat := if m = 1 then [39, 39, 39] else if m = 2 then [34, 34, 34] else if m = 3 then [39] else [34]
/-- How far a text goes on, and how it ends: 0 by its quotes, 1 by a backslash, 2 by neither. -/
def clo (q : List Nat) : List Nat → Nat × Nat
  | [] => (0, 2)
  | [c] => if c = 92 then (1, 1) else if q.isPrefixOf [c] then (q.length, 0) else (1, 2)
  | c :: d :: r => if c = 92 then ((clo q r).1 + 2, (clo q r).2) else if q.isPrefixOf (c :: d :: r) then (q.length, 0) else ((clo q (d :: r)).1 + 1, (clo q (d :: r)).2)
def lowN (c : Nat) : Nat := if 65 ≤ c ∧ c ≤ 90 then c + 32 else c
def pres : List (List Nat) := [[], [114], [117], [98], [102], [98, 114], [114, 98], [102, 114], [114, 102]]
def begM (l : List Nat) (n : Nat) : Nat × Nat :=
  if (quo 1).isPrefixOf l then (1, n + 3) else if (quo 2).isPrefixOf l then (2, n + 3) else if (quo 3).isPrefixOf l then (3, n + 1) else if (quo 4).isPrefixOf l then (4, n + 1) else (0, 0)
def begP (p l : List Nat) : Bool := decide (p.length ≤ l.length) && ((l.take p.length).map lowN == p)
def begF : List (List Nat) → List Nat → Nat × Nat
  | [], _ => (0, 0)
  | p :: ps, l => if begP p l = true ∧ (begM (l.drop p.length) p.length).1 ≠ 0 then begM (l.drop p.length) p.length else begF ps l
/-- The mark of a text that begins, and how far its quotes reach. -/
def begL (l : List Nat) : Nat × Nat := begF pres l
def numC (sg : Bool) (prev c : Nat) : Bool := (letN c && decide (c < 128)) || digN c || c == 46 || (sg && (c == 43 || c == 45) && (prev == 101 || prev == 69))
def numT (sg : Bool) : Nat → List Nat → Nat
  | _, [] => 0
  | prev, c :: r => if numC sg prev c = true then numT sg c r + 1 else 0
def sgn : List Nat → Bool
  | _ :: d :: _ => !(d == 120 || d == 88 || d == 98 || d == 66 || d == 111 || d == 79)
  | _ => true
def numL : List Nat → Nat
  | [] => 1
  | c :: r => numT (sgn (c :: r)) c r + 1
def namT : List Nat → Nat
  | [] => 0
  | c :: r => if (letN c || digN c) = true then namT r + 1 else 0
def op3 : List (List Nat) := [[42, 42, 61], [47, 47, 61], [62, 62, 61], [60, 60, 61], [46, 46, 46]]
def op2 : List (List Nat) := [[42, 42], [47, 47], [62, 62], [60, 60], [60, 61], [62, 61], [61, 61], [33, 61], [45, 62], [43, 61], [45, 61], [42, 61], [47, 61], [37, 61], [38, 61], [124, 61], [94, 61], [64, 61], [58, 61]]
def op1 : List Nat := [43, 45, 42, 47, 37, 64, 38, 124, 94, 126, 60, 62, 40, 41, 91, 93, 123, 125, 44, 58, 46, 59, 61]
def opL (l : List Nat) : Nat := if op3.any (·.isPrefixOf l) = true then 3 else if op2.any (·.isPrefixOf l) = true then 2 else if op1.any (fun c => [c].isPrefixOf l) = true then 1 else 0
/-- A leaf that is read: its kind, how many bytes, what is open behind it, the depth, whether it joins. -/
structure Tok where
  kind : Nat
  len : Nat
  mark : Nat
  depth : Int
  join : Bool
def textL (m : Nat) (d : Int) (l : List Nat) : Tok :=
  let m1 := if m = 0 then (begL l).1 else m
  let sk := if m = 0 then (begL l).2 else 0
  let x := clo (quo m1) (l.drop sk)
  if x.2 = 0 then ⟨if m = 0 then 15 else 16, sk + x.1, 0, d, false⟩ else if m1 ≤ 2 ∨ x.2 = 1 then ⟨16, sk + x.1, m1, d, false⟩ else ⟨2, sk + x.1, 0, d, false⟩
def isTxt (m : Nat) (c : Nat) (l : List Nat) : Bool := decide (m ≠ 0) || (!isBl c && c != 35 && c != 92 && decide ((begL l).1 ≠ 0))
def opTok (d : Int) (c : Nat) (l : List Nat) : Tok :=
  if c = 40 ∨ c = 91 ∨ c = 123 then ⟨17, opL l, 0, min (d + 1) 1048576, false⟩
  else if c = 41 ∨ c = 93 ∨ c = 125 then ⟨if d = 0 then 2 else 17, opL l, 0, max (d - 1) 0, false⟩
  else ⟨17, opL l, 0, d, false⟩
def digH : List Nat → Bool
  | e :: _ => digN e
  | [] => false
/-- What is read of bytes; none: a blank (or nothing). -/
def tokL (m : Nat) (d : Int) : List Nat → Option Tok
  | [] => none
  | c :: r =>
    if isTxt m c (c :: r) = true then some (textL m d (c :: r))
    else if isBl c = true then none
    else if c = 35 then some ⟨18, r.length + 1, 0, d, false⟩
    else if c = 92 then some ⟨if r = [] then 19 else 2, 1, 0, d, decide (r = [])⟩
    else if letN c = true then some ⟨13, namT r + 1, 0, d, false⟩
    else if (digN c || (c == 46 && digH r)) = true then some ⟨14, numL (c :: r), 0, d, false⟩
    else if 0 < opL (c :: r) then some (opTok d c (c :: r))
    else some ⟨2, 1, 0, d, false⟩
/-- What a line has told so far. -/
structure PSt where
  mark : Nat
  depth : Int
  j : Bool
  s : Bool
  c : Bool
structure PEv where
  kind : Nat
  a : Nat
  b : Nat
def aft (st : PSt) (t : Tok) (l : List Nat) : PSt :=
  ⟨t.mark, t.depth, st.j || t.join, st.s || (t.kind != 18 && t.kind != 19), if t.kind = 18 ∨ t.kind = 19 then st.c else t.kind == 17 && l.take t.len == [58] && t.depth == 0⟩
def scanF : Nat → Nat → List Nat → PSt → List PEv × PSt
  | 0, _, _, st => ([], st)
  | f + 1, p, l, st => if l = [] then ([], st) else match tokL st.mark st.depth l with
    | none => scanF f (p + 1) (l.drop 1) st
    | some t => (⟨t.kind, p, p + t.len⟩ :: (scanF f (p + t.len) (l.drop t.len) (aft st t l)).1, (scanF f (p + t.len) (l.drop t.len) (aft st t l)).2)
def endF : Bool → Nat → List Nat → Nat
  | _, p, [] => p
  | b, p, c :: r => if c = 10 then (if b then p - 1 else p) else endF (c == 13) (p + 1) r
def endL (l : List Nat) : Nat := endF false 0 l
def markE (m : Nat) : Nat := if m ≤ 4 then m else 0
def depE (d : Int) : Int := if d < 0 then 0 else if 1048576 < d then 1048576 else d
def st0 (m : Nat) (d : Int) : PSt := ⟨markE m, depE d, false, false, false⟩
/-- What a line's bytes tell, from a place on. -/
def scanL (t : List Nat) (i m : Nat) (d : Int) : List PEv × PSt := scanF t.length i (t.drop i) (st0 m d)
/-- What a line tells. -/
def scanE (l : List Nat) (a : Int) (m : Nat) (d : Int) : List PEv × PSt := scanL (l.take (endL l)) (max a 0).toNat m d

/-! What is always so. -/
theorem quo_len (m : Nat) : 1 ≤ (quo m).length ∧ (quo m).length ≤ 3 := by unfold quo; (repeat' split) <;> simp
theorem clo_le (q : List Nat) (hq : 1 ≤ q.length) : ∀ l : List Nat, (clo q l).1 ≤ l.length ∧ (l ≠ [] → 0 < (clo q l).1) ∧ ((clo q l).2 ≠ 0 → (clo q l).1 = l.length) ∧ (clo q l).2 ≤ 2
  | [] => by simp [clo]
  | [c] => by
    unfold clo
    split
    · simp
    · split
      · rename_i h
        have := (List.isPrefixOf_iff_prefix.1 h).length_le
        simp at this ⊢
        omega
      · simp
  | c :: d :: r => by
    have h1 := clo_le q hq r
    have h2 := clo_le q hq (d :: r)
    unfold clo
    simp only [List.length_cons] at h1 h2 ⊢
    split
    · refine ⟨by simp; omega, fun _ => by simp, fun h => ?_, h1.2.2.2⟩
      have := h1.2.2.1 h
      simp; omega
    · split
      · rename_i h
        have := (List.isPrefixOf_iff_prefix.1 h).length_le
        simp at this ⊢
        omega
      · refine ⟨by simp; omega, fun _ => by simp, fun h => ?_, h2.2.2.2⟩
        have := h2.2.2.1 h
        simp; omega
theorem begM_le {l : List Nat} {n : Nat} (h : (begM l n).1 ≠ 0) : n < (begM l n).2 ∧ (begM l n).2 ≤ n + l.length ∧ (begM l n).1 ≤ 4 := by
  unfold begM at h ⊢
  (repeat' split) <;> rename_i hh
  all_goals first
    | (have := (List.isPrefixOf_iff_prefix.1 hh).length_le; simp [quo] at this ⊢; omega)
    | (exfalso; simp_all)
theorem begM_mark (l : List Nat) (n : Nat) : (begM l n).1 ≤ 4 := by
  unfold begM
  (repeat' split) <;> simp
theorem begF_le : ∀ (ps : List (List Nat)) (l : List Nat), (begF ps l).1 ≠ 0 → 0 < (begF ps l).2 ∧ (begF ps l).2 ≤ l.length ∧ (begF ps l).1 ≤ 4
  | [], l, h => absurd rfl h
  | p :: ps, l, h => by
    unfold begF at h ⊢
    split
    · rename_i hc
      have hp : p.length ≤ l.length := by
        have := hc.1
        unfold begP at this
        simp only [Bool.and_eq_true, decide_eq_true_eq] at this
        exact this.1
      have := begM_le hc.2
      rw [List.length_drop] at this
      omega
    · rename_i hc
      rw [if_neg hc] at h
      exact begF_le ps l h
theorem begL_le {l : List Nat} (h : (begL l).1 ≠ 0) : 0 < (begL l).2 ∧ (begL l).2 ≤ l.length ∧ (begL l).1 ≤ 4 := begF_le pres l h
theorem begF_zero : ∀ (ps : List (List Nat)) (l : List Nat), (begF ps l).1 = 0 → begF ps l = (0, 0)
  | [], _, _ => rfl
  | p :: ps, l, h => by
    unfold begF at h ⊢
    split
    · rename_i hc; rw [if_pos hc] at h; exact absurd h hc.2
    · rename_i hc; rw [if_neg hc] at h; exact begF_zero ps l h
theorem numT_le (sg : Bool) : ∀ (p : Nat) (l : List Nat), numT sg p l ≤ l.length
  | _, [] => by simp [numT]
  | p, c :: r => by
    have := numT_le sg c r
    unfold numT
    split <;> simp <;> omega
theorem namT_le : ∀ l : List Nat, namT l ≤ l.length
  | [] => by simp [namT]
  | c :: r => by
    have := namT_le r
    unfold namT
    split <;> simp <;> omega
theorem any_pre {ps : List (List Nat)} {l : List Nat} {n : Nat} (h : ps.any (·.isPrefixOf l) = true) (hn : ∀ p ∈ ps, p.length = n) : n ≤ l.length := by
  obtain ⟨p, hp, h1⟩ := List.any_eq_true.1 h
  rw [← hn p hp]
  exact (List.isPrefixOf_iff_prefix.1 h1).length_le
theorem opL_le (l : List Nat) : opL l ≤ l.length := by
  unfold opL
  split
  · rename_i h; exact any_pre h (by decide)
  · split
    · rename_i h; exact any_pre h (by decide)
    · split
      · rename_i h
        obtain ⟨c, -, h1⟩ := List.any_eq_true.1 h
        exact (List.isPrefixOf_iff_prefix.1 h1).length_le
      · omega
theorem textL_ok {m : Nat} {d : Int} {c : Nat} {r : List Nat} (h : isTxt m c (c :: r) = true) (hm : m ≤ 4) :
    0 < (textL m d (c :: r)).len ∧ (textL m d (c :: r)).len ≤ r.length + 1 ∧ (textL m d (c :: r)).mark ≤ 4 ∧ (textL m d (c :: r)).depth = d ∧ (textL m d (c :: r)).join = false ∧
      ((textL m d (c :: r)).kind = 2 ∨ (textL m d (c :: r)).kind = 15 ∨ (textL m d (c :: r)).kind = 16) := by
  have key : ∀ (sk m1 : Nat), sk ≤ r.length + 1 → (sk = 0 ∨ 0 < sk) → 0 < sk + (clo (quo m1) ((c :: r).drop sk)).1 ∧ sk + (clo (quo m1) ((c :: r).drop sk)).1 ≤ r.length + 1 := fun sk m1 h1 h2 => by
    obtain ⟨k1, k2, -, -⟩ := clo_le (quo m1) (quo_len m1).1 ((c :: r).drop sk)
    rw [List.length_drop, List.length_cons] at k1
    refine ⟨?_, by omega⟩
    rcases h2 with rfl | h2
    · have := k2 (by simp)
      omega
    · omega
  by_cases h0 : m = 0
  · subst h0
    have hb : (begL (c :: r)).1 ≠ 0 := by
      unfold isTxt at h
      simp only [Bool.or_eq_true, Bool.and_eq_true, decide_eq_true_eq] at h
      rcases h with h | h
      · exact absurd rfl h
      · exact h.2
    obtain ⟨b1, b2, b3⟩ := begL_le hb
    rw [List.length_cons] at b2
    obtain ⟨k1, k2⟩ := key _ (begL (c :: r)).1 b2 (.inr b1)
    unfold textL
    simp only [if_true]
    (repeat' split) <;> simp <;> omega
  · obtain ⟨k1, k2⟩ := key 0 m (by omega) (.inl rfl)
    unfold textL
    simp only [if_neg h0]
    (repeat' split) <;> simp at k1 k2 ⊢ <;> omega
/-- What is so of each leaf. -/
structure TokOk (d : Int) (n : Nat) (t : Tok) : Prop where
  pos : 0 < t.len
  len : t.len ≤ n
  mark : t.mark ≤ 4
  d0 : 0 ≤ t.depth
  d1 : t.depth ≤ 1048576
  kind : t.kind = 2 ∨ (13 ≤ t.kind ∧ t.kind ≤ 19)
theorem tokL_ok {m : Nat} {d : Int} {l : List Nat} {t : Tok} (h : tokL m d l = some t) (hm : m ≤ 4) (h0 : 0 ≤ d) (h1 : d ≤ 1048576) : TokOk d l.length t := by
  cases l with
  | nil => cases h
  | cons c r =>
    have ho := opL_le (c :: r)
    have hn := numT_le (sgn (c :: r)) c r
    have ha := namT_le r
    rw [List.length_cons] at ho
    rw [tokL] at h
    split at h
    · rename_i ht
      injection h with h
      obtain ⟨k1, k2, k3, k4, k5, k6⟩ := textL_ok (d := d) ht hm
      subst h
      exact ⟨k1, k2, k3, by omega, by omega, by omega⟩
    · split at h
      · cases h
      · (repeat' split at h)
        all_goals (injection h with h; subst h)
        all_goals first
          | (unfold opTok; (repeat' split) <;> (refine ⟨?_, ?_, ?_, ?_, ?_, ?_⟩ <;> simp <;> omega))
          | (unfold numL; refine ⟨?_, ?_, ?_, ?_, ?_, ?_⟩ <;> simp <;> omega)
          | (refine ⟨?_, ?_, ?_, ?_, ?_, ?_⟩ <;> simp <;> omega)
          | (refine ⟨by simp, by simp, by simp, by simpa using h0, by simpa using h1, ?_⟩; show (if _ then _ else _) = _ ∨ _; split <;> simp)
theorem none_blank {m : Nat} {d : Int} {c : Nat} {r : List Nat} (h : tokL m d (c :: r) = none) : isBl c = true ∧ m = 0 := by
  rw [tokL] at h
  split at h
  · cases h
  · rename_i ht
    split at h
    · rename_i hb
      refine ⟨hb, ?_⟩
      unfold isTxt at ht
      simp only [Bool.or_eq_true, decide_eq_true_eq, not_or] at ht
      omega
    · (repeat' split at h) <;> cases h
end Go.Proofs.YtmfcapbllbfjnaaGreatDoor

namespace Go.Proofs.YtmfcapbllbfjnaaGreatDoor

theorem tokL_keep {m : Nat} {d : Int} {l : List Nat} {t : Tok} (h : tokL m d l = some t) (hk : t.kind = 18 ∨ t.kind = 19) : t.depth = d := by
  cases l with
  | nil => cases h
  | cons c r =>
    rw [tokL] at h
    split at h
    · injection h with h
      subst h
      exfalso
      unfold textL at hk
      dsimp only at hk
      (repeat' split at hk) <;> simp at hk
    · split at h
      · cases h
      · (repeat' split at h)
        all_goals (injection h with h; subst h)
        all_goals first
          | rfl
          | (exfalso; unfold opTok at hk; (repeat' split at hk) <;> simp at hk)
/-- What is so of what a line has told so far. -/
structure StOk (st : PSt) : Prop where
  mark : st.mark ≤ 4
  d0 : 0 ≤ st.depth
  d1 : st.depth ≤ 1048576
  col : st.c = true → st.s = true ∧ st.depth = 0
theorem st0_ok (m : Nat) (d : Int) : StOk (st0 m d) := by
  refine ⟨?_, ?_, ?_, fun h => by cases h⟩
  · show markE m ≤ 4; unfold markE; split <;> omega
  · show 0 ≤ depE d; unfold depE; (repeat' split) <;> omega
  · show depE d ≤ 1048576; unfold depE; (repeat' split) <;> omega
theorem aft_ok {st : PSt} {l : List Nat} {t : Tok} (hs : StOk st) (h : tokL st.mark st.depth l = some t) : StOk (aft st t l) := by
  have hk := tokL_ok h hs.mark hs.d0 hs.d1
  refine ⟨hk.mark, hk.d0, hk.d1, fun hc => ?_⟩
  have hc' : (if t.kind = 18 ∨ t.kind = 19 then st.c else t.kind == 17 && l.take t.len == [58] && t.depth == 0) = true := hc
  show (st.s || (t.kind != 18 && t.kind != 19)) = true ∧ t.depth = 0
  split at hc'
  · rename_i hh
    obtain ⟨k1, k2⟩ := hs.col hc'
    exact ⟨by simp [k1], by rw [tokL_keep h hh]; exact k2⟩
  · simp only [Bool.and_eq_true, beq_iff_eq] at hc'
    obtain ⟨⟨k1, -⟩, k2⟩ := hc'
    exact ⟨by simp [k1], k2⟩
/-- Leaves in order, each with bytes, and blanks alone between them. -/
def Cov (t : List Nat) : Nat → List PEv → Prop
  | p, [] => p ≤ t.length ∧ ∀ k c, p ≤ k → t[k]? = some c → isBl c = true
  | p, e :: r => p ≤ e.a ∧ e.a < e.b ∧ e.b ≤ t.length ∧ (e.kind = 2 ∨ (13 ≤ e.kind ∧ e.kind ≤ 19)) ∧ (∀ k c, p ≤ k → k < e.a → t[k]? = some c → isBl c = true) ∧ Cov t e.b r
theorem cov_blank {t : List Nat} {p c : Nat} {es : List PEv} (hc : t[p]? = some c) (hb : isBl c = true) (h : Cov t (p + 1) es) : Cov t p es := by
  cases es with
  | nil =>
    obtain ⟨h1, h2⟩ := h
    refine ⟨by omega, fun k c' hk hk' => ?_⟩
    by_cases e : k = p
    · subst e
      rw [hc] at hk'
      injection hk' with hk'
      rw [← hk']; exact hb
    · exact h2 k c' (by omega) hk'
  | cons e r =>
    obtain ⟨h1, h2, h3, h4, h5, h6⟩ := h
    refine ⟨by omega, h2, h3, h4, fun k c' hk hka hk' => ?_, h6⟩
    by_cases e : k = p
    · subst e
      rw [hc] at hk'
      injection hk' with hk'
      rw [← hk']; exact hb
    · exact h5 k c' (by omega) hka hk'
theorem drop_at {t : List Nat} {p c : Nat} {r : List Nat} (h : t.drop p = c :: r) : t[p]? = some c ∧ p < t.length ∧ t.drop (p + 1) = r := by
  have hp : p < t.length := by
    rcases Nat.lt_or_ge p t.length with k | k
    · exact k
    · rw [List.drop_of_length_le k] at h; cases h
  rw [List.drop_eq_getElem_cons hp] at h
  injection h with h1 h2
  exact ⟨by rw [List.getElem?_eq_getElem hp, h1], hp, h2⟩
theorem scan_cov (t : List Nat) : ∀ (f p : Nat) (l : List Nat) (st : PSt), StOk st → t.drop p = l → p ≤ t.length → l.length ≤ f → Cov t p (scanF f p l st).1 ∧ StOk (scanF f p l st).2
  | 0, p, l, st, hs, hl, hp, hf => by
    have : l = [] := List.eq_nil_of_length_eq_zero (by omega)
    subst this
    refine ⟨⟨hp, fun k c hk hc => ?_⟩, hs⟩
    have h1 : k < t.length := (List.getElem?_eq_some_iff.1 hc).1
    have h2 : t.length ≤ p := List.drop_eq_nil_iff.1 hl
    omega
  | f + 1, p, [], st, hs, hl, hp, hf => by
    unfold scanF
    rw [if_pos rfl]
    refine ⟨⟨hp, fun k c hk hc => ?_⟩, hs⟩
    have h1 : k < t.length := (List.getElem?_eq_some_iff.1 hc).1
    have h2 : t.length ≤ p := List.drop_eq_nil_iff.1 hl
    omega
  | f + 1, p, c :: r, st, hs, hl, hp, hf => by
    obtain ⟨h1, h2, h3⟩ := drop_at hl
    unfold scanF
    rw [if_neg (by simp)]
    cases hq : tokL st.mark st.depth (c :: r) with
    | none =>
      dsimp only
      obtain ⟨hb, -⟩ := none_blank hq
      rw [List.drop_one, List.tail_cons]
      obtain ⟨k1, k2⟩ := scan_cov t f (p + 1) r st hs h3 h2 (by simpa using hf)
      exact ⟨cov_blank h1 hb k1, k2⟩
    | some tk =>
      dsimp only
      have hk := tokL_ok hq hs.mark hs.d0 hs.d1
      have hkl := hk.len
      have hlen : (c :: r).length = t.length - p := by rw [← hl, List.length_drop]
      have h4 : t.drop (p + tk.len) = (c :: r).drop tk.len := by rw [← hl, List.drop_drop]
      obtain ⟨k1, k2⟩ := scan_cov t f (p + tk.len) _ _ (aft_ok hs hq) h4 (by omega) (by rw [List.length_drop]; have := hk.pos; omega)
      exact ⟨⟨Nat.le_refl _, by have := hk.pos; show p < p + tk.len; omega, by show p + tk.len ≤ _; omega, hk.kind, fun k c' g1 g2 => absurd g2 (Nat.not_lt.2 g1), k1⟩, k2⟩
/-- Where one stands ahead of the leaf number i. -/
def preB (p : Nat) (es : List PEv) (i : Nat) : Nat := if i = 0 then p else (es[i - 1]?.map (·.b)).getD 0
theorem preB_cons (p : Nat) (e : PEv) (r : List PEv) (i : Nat) : preB p (e :: r) (i + 1) = preB e.b r i := by
  unfold preB
  rw [if_neg (by omega)]
  cases i with
  | zero => simp
  | succ j => simp
theorem cov_at {t : List Nat} : ∀ {p : Nat} {es : List PEv}, Cov t p es → ∀ (i : Nat) (hi : i < es.length),
    preB p es i ≤ es[i].a ∧ es[i].a < es[i].b ∧ es[i].b ≤ t.length ∧ (es[i].kind = 2 ∨ (13 ≤ es[i].kind ∧ es[i].kind ≤ 19)) ∧ ∀ k c, preB p es i ≤ k → k < es[i].a → t[k]? = some c → isBl c = true
  | p, [], _, i, hi => absurd hi (Nat.not_lt_zero _)
  | p, e :: r, h, 0, hi => ⟨h.1, h.2.1, h.2.2.1, h.2.2.2.1, h.2.2.2.2.1⟩
  | p, e :: r, h, i + 1, hi => by
    have := cov_at h.2.2.2.2.2 i (by simpa using hi)
    rw [preB_cons]
    exact this
theorem cov_end {t : List Nat} : ∀ {p : Nat} {es : List PEv}, Cov t p es → preB p es es.length ≤ t.length ∧ ∀ k c, preB p es es.length ≤ k → t[k]? = some c → isBl c = true
  | p, [], h => h
  | p, e :: r, h => by
    have := cov_end h.2.2.2.2.2
    rw [List.length_cons, preB_cons]
    exact this
theorem scan_fuel : ∀ (f f' p : Nat) (l : List Nat) (st : PSt), StOk st → l.length ≤ f → l.length ≤ f' → scanF f p l st = scanF f' p l st
  | 0, 0, _, _, _, _, _, _ => rfl
  | 0, f' + 1, p, l, st, _, h, _ => by
    have : l = [] := List.eq_nil_of_length_eq_zero (by omega)
    subst this
    unfold scanF
    rw [if_pos rfl]
  | f + 1, 0, p, l, st, _, _, h => by
    have : l = [] := List.eq_nil_of_length_eq_zero (by omega)
    subst this
    unfold scanF
    rw [if_pos rfl]
  | f + 1, f' + 1, p, l, st, hs, h, h' => by
    unfold scanF
    by_cases hl : l = []
    · rw [if_pos hl, if_pos hl]
    · rw [if_neg hl, if_neg hl]
      cases hq : tokL st.mark st.depth l with
      | none =>
        dsimp only
        exact scan_fuel f f' (p + 1) _ st hs (by rw [List.length_drop]; omega) (by rw [List.length_drop]; omega)
      | some tk =>
        dsimp only
        have hk := tokL_ok hq hs.mark hs.d0 hs.d1
        have := hk.pos
        rw [scan_fuel f f' (p + tk.len) _ _ (aft_ok hs hq) (by rw [List.length_drop]; omega) (by rw [List.length_drop]; omega)]
def shE (k : Nat) (e : PEv) : PEv := ⟨e.kind, e.a + k, e.b + k⟩
theorem scan_shift (k : Nat) : ∀ (f p : Nat) (l : List Nat) (st : PSt), scanF f (p + k) l st = ((scanF f p l st).1.map (shE k), (scanF f p l st).2)
  | 0, _, _, _ => rfl
  | f + 1, p, l, st => by
    unfold scanF
    by_cases hl : l = []
    · rw [if_pos hl, if_pos hl]; rfl
    · rw [if_neg hl, if_neg hl]
      cases hq : tokL st.mark st.depth l with
      | none =>
        dsimp only
        rw [show p + k + 1 = p + 1 + k from by omega]
        exact scan_shift k f (p + 1) _ st
      | some tk =>
        dsimp only
        rw [show p + k + tk.len = p + tk.len + k from by omega, scan_shift k f (p + tk.len)]
        simp [shE, Nat.add_comm]
/-- The flags that were there ahead of a scan. -/
def withF (j s c : Bool) (st : PSt) : PSt := ⟨st.mark, st.depth, j || st.j, s || st.s, if st.s then st.c else c⟩
theorem scan_flags (j s c : Bool) : ∀ (f p : Nat) (l : List Nat) (st : PSt), scanF f p l (withF j s c st) = ((scanF f p l st).1, withF j s c (scanF f p l st).2)
  | 0, _, _, _ => rfl
  | f + 1, p, l, st => by
    unfold scanF
    by_cases hl : l = []
    · rw [if_pos hl, if_pos hl]
    · rw [if_neg hl, if_neg hl]
      show (match tokL st.mark st.depth l with | none => _ | some t => _) = _
      cases hq : tokL st.mark st.depth l with
      | none =>
        dsimp only
        exact scan_flags j s c f (p + 1) _ st
      | some tk =>
        dsimp only
        have e : aft (withF j s c st) tk l = withF j s c (aft st tk l) := by
          unfold aft withF
          dsimp only
          by_cases hk : tk.kind = 18 ∨ tk.kind = 19
          · rw [if_pos hk, if_pos hk]
            have h1 : (tk.kind != 18 && tk.kind != 19) = false := by rcases hk with hk | hk <;> simp [hk]
            simp [h1, Bool.or_assoc]
          · rw [if_neg hk, if_neg hk]
            have h1 : (tk.kind != 18 && tk.kind != 19) = true := by simpa using hk
            simp [h1, Bool.or_assoc]
        rw [e, scan_flags j s c f (p + tk.len)]
end Go.Proofs.YtmfcapbllbfjnaaGreatDoor
